/- Models by intervals: IsProperModel, PointsCovered. -/
import Derived.Test.YtbmpljclplddeaaY7
namespace Go.Proofs.Ytbmpljclplddeaa
set_option linter.unusedVariables false
set_option linter.unusedSimpArgs false
open Go.RowKit

/-- No interval holds another one. -/
def ProperP (l m : List Int) : Prop := IvP l m ∧ ∀ i, i < l.length → ∀ k, k < l.length → i ≠ k → ¬ (nth l i ≤ nth l k ∧ nth m k ≤ nth m i)

instance (l m : List Int) : Decidable (ProperP l m) := by unfold ProperP; exact inferInstance

theorem contains_is (x y x' y' : Int) (w : World) : Calls Try.prog 82 #[.agg #[.int .i64 x, .int .i64 y], .agg #[.int .i64 x', .int .i64 y']] w (SaysB ((x ≤ x' ∧ x' ≤ y) ∧ x ≤ y' ∧ y' ≤ y) w) := by
  have F0 := Lib.hid (show Below w.heap.size w ((w.alloc (.cells #[.int .i64 x, .int .i64 y] 101)).alloc (.cells #[.int .i64 x', .int .i64 y'] 101)) from ((Below.refl _ w).alloc (Nat.le_refl _) _).alloc (by simp) _)
  have A0 := Lib.hid (show Box w.heap.size [.int .i64 x, .int .i64 y] ((w.alloc (.cells #[.int .i64 x, .int .i64 y] 101)).alloc (.cells #[.int .i64 x', .int .i64 y'] 101)) from (Box.new w _ _).keep (grown_alloc _ _ none) (by simp))
  have C0 := Lib.hid (show Box (w.heap.size + 1) [.int .i64 x', .int .i64 y'] ((w.alloc (.cells #[.int .i64 x, .int .i64 y] 101)).alloc (.cells #[.int .i64 x', .int .i64 y'] 101)) by have h := Box.new (w.alloc (.cells #[.int .i64 x, .int .i64 y] 101)) 101 [.int .i64 x', .int .i64 y']; simpa using h)
  go_enter Try.func82, Try.ntmps82
  go_wp2_with fail
  refine (has_is x y x' _).mono ?_
  rintro e w1 ⟨r, rfl, hr, hb⟩
  have HR := Lib.hid hr
  have F1 := Lib.hid (F0.out.trans (hb.mono F0.out.size))
  have x0 : w1.cell? ⟨w.heap.size, 0, none⟩ = some (.int .i64 x) := (A0.out.on hb).1 0 _ rfl
  have x1 : w1.cell? ⟨w.heap.size, 1, none⟩ = some (.int .i64 y) := (A0.out.on hb).1 1 _ rfl
  have y0 : w1.cell? ⟨w.heap.size + 1, 0, none⟩ = some (.int .i64 x') := (C0.out.on hb).1 0 _ rfl
  have y1 : w1.cell? ⟨w.heap.size + 1, 1, none⟩ = some (.int .i64 y') := (C0.out.on hb).1 1 _ rfl
  clear hr hb A0 C0 F0
  cases r with
  | false =>
    go_wp2
    go_ret
    exact SaysB.no (fun h => absurd (HR.out.2 h.1) (by decide)) F1.out
  | true =>
    go_wp2_with fail
    refine (has_is x y y' _).mono ?_
    rintro e w2 ⟨r, rfl, hr, hb⟩
    have HS := Lib.hid hr
    have F2 := Lib.hid (F1.out.trans (hb.mono F1.out.size))
    clear hr hb x0 x1 y0 y1
    go_wp2
    go_ret
    exact ⟨r, rfl, by rw [HS.out]; exact ⟨fun h => ⟨HR.out.1 (by first | rfl | trivial), h⟩, fun h => h.2⟩, F2.out⟩

set_option maxHeartbeats 4000000 in
set_option maxRecDepth 100000 in
theorem implProper (v u : Value) (l m : List Int) (w : World) (h : Ints w v l) (g : Ints w u m) (hl : l.length ≤ 1048576) (hm : m.length ≤ 1048576) :
    Calls Try.prog 61 #[.agg #[v, u]] w (SaysB (ProperP l m) w) := by
  obtain ⟨ad, cap, rfl, -, -⟩ := h.form
  obtain ⟨bd, cap', rfl, -, -⟩ := g.form
  have HI := Lib.hid h
  have HJ := Lib.hid g
  clear h g
  have F0 := Lib.hid (show Below w.heap.size w (w.alloc (.cells #[.slice ad l.length cap, .slice bd m.length cap'] 78)) from (Below.refl _ w).alloc (Nat.le_refl _) _)
  have A0 := Lib.hid (show Box w.heap.size [.slice ad l.length cap, .slice bd m.length cap'] (w.alloc (.cells #[.slice ad l.length cap, .slice bd m.length cap'] 78)) from Box.new w _ _)
  obtain ⟨b, hbb⟩ : ∃ b, b = decide (IvP l m) := ⟨_, rfl⟩
  have HBB := Lib.hid hbb
  clear hbb
  go_enter Try.func61, Try.ntmps61
  go_wp2_with fail
  refine (intervalsOf_is _ _ l m _ (HI.out.on F0.out) (HJ.out.on F0.out) hl hm).mono ?_
  rintro e w1 ⟨v1, rfl, hy, hn, hb⟩
  have F1 := Lib.hid (F0.out.trans (hb.mono F0.out.size))
  rw [← HBB.out]
  clear hb
  by_cases hiv : IvP l m
  · obtain ⟨g, rfl, hg, hrow⟩ := hy hiv
    have HR := Lib.hid hrow
    have HV := Lib.hid hiv
    obtain rfl : b = true := by rw [HBB.out]; exact decide_eq_true hiv
    have h7 : l.length ≤ 7 := hiv.1.2
    clear hy hn hrow hiv
    go_wp2
    go_loopw [16] (fun i wr => ∃ j : Nat, j ≤ l.length ∧ i = .int .i64 j ∧ Below w1.heap.size w1 wr ∧ Hid (∀ i, i < j → ∀ k, k < l.length → i ≠ k → ¬ (nth l i ≤ nth l k ∧ nth m k ≤ nth m i))) (fun i _ => l.length - (intOf i).toNat)
    case atStart => exact ⟨0, by omega, rfl, Below.refl _ _, fun i hi => absurd hi (by omega)⟩
    case round =>
      obtain ⟨j, hj, rfl, hbel, HO⟩ := hrel
      have HW := Lib.hid (F1.out.trans (hbel.mono F1.out.size))
      have hzr : w1.heap.size ≤ wr.heap.size := hbel.size
      by_cases hltj : j < l.length
      · have P3 := Lib.hid (HR.out.on hbel)
        obtain ⟨x, hx⟩ : ∃ z, z = nth l j := ⟨_, rfl⟩
        obtain ⟨y, hy⟩ : ∃ z, z = nth m j := ⟨_, rfl⟩
        have c1 := (P3.out.1 j hltj).1
        have c2 := (P3.out.1 j hltj).2
        rw [← hx] at c1
        rw [← hy] at c2
        have Hx := Lib.hid hx
        have Hy := Lib.hid hy
        clear hx hy
        have HBL := Lib.hid (hbel.alloc hzr (.cells #[.int .i64 x, .int .i64 y] 101))
        have HQ := Lib.hid (Box.new wr 101 [.int .i64 x, .int .i64 y])
        obtain ⟨q, hq⟩ : ∃ q, q = wr.heap.size := ⟨_, rfl⟩
        obtain ⟨wq, hwq⟩ : ∃ wq, wq = wr.alloc (.cells #[.int .i64 x, .int .i64 y] 101) := ⟨_, rfl⟩
        clear hbel
        go_wp2
        rw [← hwq] at HBL HQ ⊢
        rw [← hq] at HQ ⊢
        have HZQ := Lib.hid (show wq.heap.size = q + 1 by rw [hwq, hq]; simp)
        clear hwq hq c1 c2 hzr
        go_loopw [23] (fun i wr => ∃ k : Nat, k ≤ l.length ∧ i = .int .i64 k ∧ Below wq.heap.size wq wr ∧ Hid (∀ i, i < k → j ≠ i → ¬ (x ≤ nth l i ∧ nth m i ≤ y))) (fun i _ => l.length - (intOf i).toNat)
        case atStart => exact ⟨0, by omega, rfl, Below.refl _ _, fun i hi => absurd hi (by omega)⟩
        case round =>
          obtain ⟨k, hk, rfl, hbel, HO2⟩ := hrel
          have HBL2 := Lib.hid (HBL.out.trans (hbel.mono HBL.out.size))
          have hzr : wq.heap.size ≤ wr.heap.size := hbel.size
          by_cases hltk : k < l.length
          · have P4 := Lib.hid (HR.out.on HBL2.out)
            have e0 : wr.cell? ⟨q, 0, none⟩ = some (.int .i64 x) := (HQ.out.on hbel).1 0 _ rfl
            have e1 : wr.cell? ⟨q, 1, none⟩ = some (.int .i64 y) := (HQ.out.on hbel).1 1 _ rfl
            have hqr : q < wr.heap.size := by have := HZQ.out; omega
            obtain ⟨x', hx'⟩ : ∃ z, z = nth l k := ⟨_, rfl⟩
            obtain ⟨y', hy'⟩ : ∃ z, z = nth m k := ⟨_, rfl⟩
            have c3 := (P4.out.1 k hltk).1
            have c4 := (P4.out.1 k hltk).2
            rw [← hx'] at c3
            rw [← hy'] at c4
            have Hx' := Lib.hid hx'
            have Hy' := Lib.hid hy'
            clear hx' hy'
            have HB5 := Lib.hid (hbel.alloc hzr (.cells #[.int .i64 x', .int .i64 y'] 101))
            clear hbel
            by_cases hjk : j = k
            · have d0 : ((j : Int) != (k : Int)) = false := by simp [hjk]
              have HN : Hid (∀ i, i < k + 1 → j ≠ i → ¬ (x ≤ nth l i ∧ nth m i ≤ y)) := fun i hi hne => by
                rcases Nat.lt_or_ge i k with h | h
                · exact HO2.out i h hne
                · exact absurd (show j = i by omega) hne
              clear hjk HO2
              go_wp2
              go_roundw
              case rel => exact ⟨k + 1, by omega, by go_num, HB5.out, HN.out⟩
              case measure => simp [intOf]; omega
            · have d0 : ((j : Int) != (k : Int)) = true := by simp; omega
              have HJK := Lib.hid hjk
              clear hjk
              go_wp2_with fail
              refine (contains_is x y x' y' _).mono ?_
              rintro e w5 ⟨r, rfl, hr, hb5⟩
              have HRR := Lib.hid hr
              have HB6 := Lib.hid (HB5.out.trans (hb5.mono HB5.out.size))
              clear hr hb5 e0 e1 c3 c4
              have hv := HV.out.2.2 k hltk
              rw [← Hx'.out, ← Hy'.out] at hv
              have HVK := Lib.hid hv
              clear hv
              cases r with
              | false =>
                have HN : Hid (∀ i, i < k + 1 → j ≠ i → ¬ (x ≤ nth l i ∧ nth m i ≤ y)) := fun i hi hne hh => by
                  rcases Nat.lt_or_ge i k with h | h
                  · exact HO2.out i h hne hh
                  · obtain rfl : i = k := by omega
                    rw [← Hx'.out, ← Hy'.out] at hh
                    have := HVK.out
                    exact absurd (HRR.out.2 ⟨⟨by omega, by omega⟩, by omega, by omega⟩) (by decide)
                go_wp2
                go_roundw
                case rel => exact ⟨k + 1, by omega, by go_num, HB6.out, HN.out⟩
                case measure => simp [intOf]; omega
              | true =>
                have HN := Lib.hid (show ¬ ProperP l m from fun h => by
                  have h1 := HRR.out.1 (by first | rfl | trivial)
                  refine h.2 j hltj k hltk HJK.out ⟨?_, ?_⟩
                  · rw [← Hx.out, ← Hx'.out]; exact h1.1.1
                  · rw [← Hy.out, ← Hy'.out]; exact h1.2.2)
                have HWE := Lib.hid (F1.out.trans ((HBL.out.trans (HB6.out.mono HBL.out.size)).mono F1.out.size))
                go_wp2
                go_ret
                exact SaysB.no HN.out HWE.out
          · obtain rfl : k = l.length := by omega
            have HN : Hid (∀ i, i < j + 1 → ∀ k, k < l.length → i ≠ k → ¬ (nth l i ≤ nth l k ∧ nth m k ≤ nth m i)) := fun i hi k hk hne => by
              rcases Nat.lt_or_ge i j with h | h
              · exact HO.out i h k hk hne
              · obtain rfl : i = j := by omega
                rw [← Hx.out, ← Hy.out]
                exact HO2.out k hk hne
            clear hbel
            go_wp2
            go_roundw
            case rel => exact ⟨j + 1, by omega, by go_num, HBL2.out, HN.out⟩
            case measure => simp [intOf]; omega
      · obtain rfl : j = l.length := by omega
        go_wp2
        go_ret
        exact SaysB.yes ⟨HV.out, HO.out⟩ HW.out
  · obtain rfl := hn hiv
    obtain rfl : b = false := by rw [HBB.out]; exact decide_eq_false hiv
    have HN := Lib.hid (show ¬ ProperP l m from fun h => hiv h.1)
    clear hy hn hiv
    go_wp2
    go_loopw [16] (fun i wr => i = .int .i64 0 ∧ wr = w1) (fun _ _ => 0)
    case atStart => exact ⟨rfl, rfl⟩
    case round =>
      obtain ⟨rfl, rfl⟩ := hrel
      go_wp2
      go_ret
      exact SaysB.no HN.out F1.out

end Go.Proofs.Ytbmpljclplddeaa
