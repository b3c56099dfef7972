/- Models by intervals: IsUnitModel, IsProperModel, PointsCovered. -/
import Derived.Test.YtbmpljclplddeaaY6
import Derived.Test.YtbmpljclplddeaaH2
namespace Go.Proofs.Ytbmpljclplddeaa
set_option linter.unusedVariables false
set_option linter.unusedSimpArgs false
open Go.RowKit

def UnitP (l m : List Int) (k : Int) : Prop := IvP l m ∧ ∀ i, i < l.length → nth m i - nth l i = k

instance (l m : List Int) (k : Int) : Decidable (UnitP l m k) := by unfold UnitP; exact inferInstance

theorem length_is (x y : Int) (w : World) (h : -9223372036854775808 ≤ y - x) (h' : y - x ≤ 9223372036854775807) : Calls Try.prog 81 #[.agg #[.int .i64 x, .int .i64 y]] w fun e w' => e = .returned (.int .i64 (y - x)) ∧ Below w.heap.size w w' := by
  have F0 := Lib.hid (show Below w.heap.size w (w.alloc (.cells #[.int .i64 x, .int .i64 y] 101)) from (Below.refl _ w).alloc (Nat.le_refl _) _)
  obtain ⟨D, hD⟩ : ∃ D, D = y - x := ⟨_, rfl⟩
  have q0 : IntKind.i64.wrap (y - x) = D := by rw [hD, IntKind.wrap_i64]; omega
  rw [← hD]
  clear hD h h'
  go_enter Try.func81, Try.ntmps81
  go_wp2
  go_ret
  exact ⟨rfl, F0.out⟩

theorem has_is (x y t : Int) (w : World) : Calls Try.prog 83 #[.agg #[.int .i64 x, .int .i64 y], .int .i64 t] w (SaysB (x ≤ t ∧ t ≤ y) w) := by
  have F0 := Lib.hid (show Below w.heap.size w (w.alloc (.cells #[.int .i64 x, .int .i64 y] 101)) from (Below.refl _ w).alloc (Nat.le_refl _) _)
  obtain ⟨P, hP⟩ : ∃ P : Prop, P = (x ≤ t ∧ t ≤ y) := ⟨_, rfl⟩
  have HP := Lib.hid (show P ↔ (x ≤ t ∧ t ≤ y) by rw [hP])
  rw [← hP]
  clear hP
  by_cases h0 : x ≤ t
  · have d0 : decide (x ≤ t) = true := by simp [h0]
    by_cases h1 : t ≤ y
    · have d1 : decide (t ≤ y) = true := by simp [h1]
      have HY := Lib.hid (HP.out.2 ⟨h0, h1⟩)
      go_enter Try.func83, Try.ntmps83
      go_wp2
      go_ret
      exact SaysB.yes HY.out F0.out
    · have d1 : decide (t ≤ y) = false := by simp; omega
      have HY := Lib.hid (show ¬ P from fun h => h1 (HP.out.1 h).2)
      go_enter Try.func83, Try.ntmps83
      go_wp2
      go_ret
      exact SaysB.no HY.out F0.out
  · have d0 : decide (x ≤ t) = false := by simp; omega
    have HY := Lib.hid (show ¬ P from fun h => h0 (HP.out.1 h).1)
    go_enter Try.func83, Try.ntmps83
    go_wp2
    go_ret
    exact SaysB.no HY.out F0.out

set_option maxHeartbeats 2000000 in
set_option maxRecDepth 100000 in
theorem implUnit (v u : Value) (l m : List Int) (k : Int) (w : World) (h : Ints w v l) (g : Ints w u m) (hl : l.length ≤ 1048576) (hm : m.length ≤ 1048576) :
    Calls Try.prog 59 #[.agg #[v, u], .int .i64 k] w (SaysB (UnitP l m k) w) := by
  obtain ⟨ad, cap, rfl, -, -⟩ := h.form
  obtain ⟨bd, cap', rfl, -, -⟩ := g.form
  have HI := Lib.hid h
  have HJ := Lib.hid g
  clear h g
  have F0 := Lib.hid (show Below w.heap.size w (w.alloc (.cells #[.slice ad l.length cap, .slice bd m.length cap'] 78)) from (Below.refl _ w).alloc (Nat.le_refl _) _)
  have A0 := Lib.hid (show Box w.heap.size [.slice ad l.length cap, .slice bd m.length cap'] (w.alloc (.cells #[.slice ad l.length cap, .slice bd m.length cap'] 78)) from Box.new w _ _)
  obtain ⟨b, hbb⟩ : ∃ b, b = decide (IvP l m) := ⟨_, rfl⟩
  have HBB := Lib.hid hbb
  clear hbb
  go_enter Try.func59, Try.ntmps59
  go_wp2_with fail
  refine (intervalsOf_is _ _ l m _ (HI.out.on F0.out) (HJ.out.on F0.out) hl hm).mono ?_
  rintro e w1 ⟨v1, rfl, hy, hn, hb⟩
  have F1 := Lib.hid (F0.out.trans (hb.mono F0.out.size))
  rw [← HBB.out]
  clear hb
  by_cases hiv : IvP l m
  · obtain ⟨g, rfl, hg, hrow⟩ := hy hiv
    have HR := Lib.hid hrow
    have HV := Lib.hid hiv
    obtain rfl : b = true := by rw [HBB.out]; exact decide_eq_true hiv
    have h7 : l.length ≤ 7 := hiv.1.2
    clear hy hn hrow hiv
    go_wp2
    go_loopw [16] (fun i wr => ∃ j : Nat, j ≤ l.length ∧ i = .int .i64 j ∧ Below w1.heap.size w1 wr ∧ Hid (∀ i, i < j → nth m i - nth l i = k)) (fun i _ => l.length - (intOf i).toNat)
    case atStart => exact ⟨0, by omega, rfl, Below.refl _ _, fun i hi => absurd hi (by omega)⟩
    case round =>
      obtain ⟨j, hj, rfl, hbel, HO⟩ := hrel
      have HW := Lib.hid (F1.out.trans (hbel.mono F1.out.size))
      have hzr : w1.heap.size ≤ wr.heap.size := hbel.size
      by_cases hlt : j < l.length
      · skip
        have P3 := Lib.hid (HR.out.on hbel)
        obtain ⟨x, hx⟩ : ∃ x, x = nth l j := ⟨_, rfl⟩
        obtain ⟨y, hy⟩ : ∃ y, y = nth m j := ⟨_, rfl⟩
        have c1 := (P3.out.1 j hlt).1
        have c2 := (P3.out.1 j hlt).2
        rw [← hx] at c1
        rw [← hy] at c2
        have HX := Lib.hid hx
        have HY := Lib.hid hy
        clear hx hy
        have hxy := HV.out.2.2 j hlt
        rw [← HX.out, ← HY.out] at hxy
        have HBL := Lib.hid (hbel.alloc hzr (.cells #[.int .i64 x, .int .i64 y] 101))
        clear hbel
        go_wp2_with fail
        refine (length_is x y _ (by omega) (by omega)).mono ?_
        rintro e w4 ⟨rfl, hb4⟩
        have HB4 := Lib.hid (HBL.out.trans (hb4.mono HBL.out.size))
        have HW4 := Lib.hid (F1.out.trans (HB4.out.mono F1.out.size))
        clear hb4 c1 c2
        obtain ⟨D, hD⟩ : ∃ D, D = y - x := ⟨_, rfl⟩
        have HD := Lib.hid hD
        rw [← hD]
        clear hD hxy
        by_cases hk : D = k
        · have d0 : (D != k) = false := by simp [hk]
          have HN : Hid (∀ i, i < j + 1 → nth m i - nth l i = k) := fun i hi => by
            rcases Nat.lt_or_ge i j with h | h
            · exact HO.out i h
            · obtain rfl : i = j := by omega
              rw [← HX.out, ← HY.out, ← HD.out]; exact hk
          clear hk HO
          go_wp2
          go_roundw
          case rel => exact ⟨j + 1, by omega, by go_num, HB4.out, HN.out⟩
          case measure => simp [intOf]; omega
        · have d0 : (D != k) = true := by simp [hk]
          have HN := Lib.hid (show ¬ UnitP l m k from fun h => hk (by rw [HD.out, HX.out, HY.out]; exact h.2 j hlt))
          clear hk
          go_wp2
          go_ret
          exact SaysB.no HN.out HW4.out
      · obtain rfl : j = l.length := by omega
        go_wp2
        go_ret
        exact SaysB.yes ⟨HV.out, HO.out⟩ HW.out
  · obtain rfl := hn hiv
    obtain rfl : b = false := by rw [HBB.out]; exact decide_eq_false hiv
    have HN := Lib.hid (show ¬ UnitP l m k from fun h => hiv h.1)
    clear hy hn hiv
    go_wp2
    go_loopw [16] (fun i wr => i = .int .i64 0 ∧ wr = w1) (fun _ _ => 0)
    case atStart => exact ⟨rfl, rfl⟩
    case round =>
      obtain ⟨rfl, rfl⟩ := hrel
      go_wp2
      go_ret
      exact SaysB.no HN.out F1.out

set_option maxHeartbeats 2000000 in
set_option maxRecDepth 100000 in
theorem specUnit (v u : Value) (l m : List Int) (k : Int) (w : World) (h : Ints w v l) (g : Ints w u m) (hl : l.length ≤ 1048576) (hm : m.length ≤ 1048576) :
    Calls Try.prog 58 #[.agg #[v, u], .int .i64 k] w (SaysB (UnitP l m k) w) := by
  obtain ⟨ad, cap, rfl, -, -⟩ := h.form
  obtain ⟨bd, cap', rfl, -, -⟩ := g.form
  have HI := Lib.hid h
  have HJ := Lib.hid g
  clear h g
  have F0 := Lib.hid (show Below w.heap.size w (w.alloc (.cells #[.slice ad l.length cap, .slice bd m.length cap'] 78)) from (Below.refl _ w).alloc (Nat.le_refl _) _)
  have A0 := Lib.hid (show Box w.heap.size [.slice ad l.length cap, .slice bd m.length cap'] (w.alloc (.cells #[.slice ad l.length cap, .slice bd m.length cap'] 78)) from Box.new w _ _)
  go_enter Try.func58, Try.ntmps58
  go_wp2
  go_loopw [5] (fun i wr => ∃ j : Nat, j ≤ l.length ∧ i = .int .i64 j ∧ Below (w.alloc (.cells #[.slice ad l.length cap, .slice bd m.length cap'] 78)).heap.size (w.alloc (.cells #[.slice ad l.length cap, .slice bd m.length cap'] 78)) wr ∧ Hid (∀ i, i < j → nth m i - nth l i = k)) (fun i _ => l.length - (intOf i).toNat)
  case atStart => exact ⟨0, by omega, rfl, Below.refl _ _, fun i hi => absurd hi (by omega)⟩
  case round =>
    obtain ⟨j, hj, rfl, hbel, HO⟩ := hrel
    have hB0 := F0.out.trans (hbel.mono F0.out.size)
    have HB0 := Lib.hid hB0
    have HBL := Lib.hid hbel
    have x0 : wr.cell? ⟨w.heap.size, 0, none⟩ = some (.slice ad l.length cap) := (A0.out.on HBL.out).1 0 _ rfl
    have x1 : wr.cell? ⟨w.heap.size, 1, none⟩ = some (.slice bd m.length cap') := (A0.out.on HBL.out).1 1 _ rfl
    by_cases hlt : j < l.length
    · clear hbel hB0
      go_wp2_with fail
      refine (specIsModel _ _ l m _ (HI.out.on HB0.out) (HJ.out.on HB0.out) hl hm).mono ?_
      rintro e w3 ⟨r, rfl, hr, hb3⟩
      have HRR := Lib.hid hr
      have HB3 := Lib.hid (HBL.out.trans (hb3.mono HBL.out.size))
      have hB := F0.out.trans (HB3.out.mono F0.out.size)
      have HW3 := Lib.hid hB
      clear hr hb3 x0 x1
      have x0 : w3.cell? ⟨w.heap.size, 0, none⟩ = some (.slice ad l.length cap) := (A0.out.on HB3.out).1 0 _ rfl
      have x1 : w3.cell? ⟨w.heap.size, 1, none⟩ = some (.slice bd m.length cap') := (A0.out.on HB3.out).1 1 _ rfl
      cases r with
      | false =>
        have HN := Lib.hid (show ¬ UnitP l m k from fun h => absurd (HRR.out.2 h.1) (by decide))
        go_wp2_with fail
        refine (specIsModel _ _ l m _ (HI.out.on HW3.out) (HJ.out.on HW3.out) hl hm).mono ?_
        rintro e w4 ⟨r, rfl, hr, hb4⟩
        have HR4 := Lib.hid hr
        have HW4 := Lib.hid (HW3.out.trans (hb4.mono HW3.out.size))
        clear hr hb4
        go_wp2
        go_ret
        exact ⟨r, rfl, by rw [HR4.out]; exact ⟨fun h => absurd (HRR.out.2 h) (by decide), fun h => absurd h HN.out⟩, HW4.out⟩
      | true =>
        have HV := Lib.hid (HRR.out.1 (by first | rfl | trivial))
        have hltm : j < m.length := by have := HV.out.2.1; omega
        obtain ⟨b, off, cap1, hv, _, _, hb, hcell⟩ := (HI.out.on hB).pos (by omega)
        simp only [Value.slice.injEq] at hv
        obtain ⟨rfl, -, rfl⟩ := hv
        obtain ⟨b', off', cap1', hv, _, _, hb', hcell'⟩ := (HJ.out.on hB).pos (by omega)
        simp only [Value.slice.injEq] at hv
        obtain ⟨rfl, -, rfl⟩ := hv
        obtain ⟨x, hx⟩ : ∃ x, x = nth l j := ⟨_, rfl⟩
        obtain ⟨y, hy⟩ : ∃ y, y = nth m j := ⟨_, rfl⟩
        have c1 := hcell j hlt
        have c2 := hcell' j hltm
        rw [← hx] at c1
        rw [← hy] at c2
        have HX := Lib.hid hx
        have HY := Lib.hid hy
        have hxy := HV.out.2.2 j hlt
        rw [← hx, ← hy] at hxy
        obtain ⟨D, hD⟩ : ∃ D, D = y - x := ⟨_, rfl⟩
        have q0 : IntKind.i64.wrap (y - x) = D := by rw [hD, IntKind.wrap_i64]; omega
        have HD := Lib.hid hD
        clear hcell hcell' hx hy hD hxy hB
        by_cases hk : D = k
        · have d0 : (D != k) = false := by simp [hk]
          have HN : Hid (∀ i, i < j + 1 → nth m i - nth l i = k) := fun i hi => by
            rcases Nat.lt_or_ge i j with h | h
            · exact HO.out i h
            · obtain rfl : i = j := by omega
              rw [← HX.out, ← HY.out, ← HD.out]; exact hk
          clear hk HO
          go_wp2
          go_quiet (fail)
          go_wp2
          go_roundw
          case rel => exact ⟨j + 1, by omega, by go_num, below_drewN HB3.out _, HN.out⟩
          case measure => simp [intOf]; omega
        · have d0 : (D != k) = true := by simp [hk]
          have HN := Lib.hid (show ¬ UnitP l m k from fun h => hk (by rw [HD.out, HX.out, HY.out]; exact h.2 j hlt))
          clear hk
          go_wp2
          go_quiet (fail)
          go_wp2
          go_ret
          exact SaysB.no HN.out (below_drewN HW3.out _)
    · obtain rfl : j = l.length := by omega
      clear hbel hB0
      go_wp2_with fail
      refine (specIsModel _ _ l m _ (HI.out.on HB0.out) (HJ.out.on HB0.out) hl hm).mono ?_
      rintro e w4 ⟨r, rfl, hr, hb4⟩
      have HR4 := Lib.hid hr
      have HW4 := Lib.hid (HB0.out.trans (hb4.mono HB0.out.size))
      clear hr hb4
      go_wp2
      go_ret
      exact ⟨r, rfl, by rw [HR4.out]; exact ⟨fun h => ⟨h, HO.out⟩, fun h => h.1⟩, HW4.out⟩

end Go.Proofs.Ytbmpljclplddeaa
