/- Models by intervals: the specification's IsProperModel, PointsCovered. -/
import Derived.Test.YtbmpljclplddeaaY8
namespace Go.Proofs.Ytbmpljclplddeaa
set_option linter.unusedVariables false
set_option linter.unusedSimpArgs false
open Go.RowKit

set_option maxHeartbeats 4000000 in
set_option maxRecDepth 100000 in
theorem specProper (v u : Value) (l m : List Int) (w : World) (h : Ints w v l) (g : Ints w u m) (hl : l.length ≤ 1048576) (hm : m.length ≤ 1048576) :
    Calls Try.prog 60 #[.agg #[v, u]] w (SaysB (ProperP l m) w) := by
  obtain ⟨ad, cap, rfl, -, -⟩ := h.form
  obtain ⟨bd, cap', rfl, -, -⟩ := g.form
  have HI := Lib.hid h
  have HJ := Lib.hid g
  clear h g
  have F0 := Lib.hid (show Below w.heap.size w (w.alloc (.cells #[.slice ad l.length cap, .slice bd m.length cap'] 78)) from (Below.refl _ w).alloc (Nat.le_refl _) _)
  have A0 := Lib.hid (show Box w.heap.size [.slice ad l.length cap, .slice bd m.length cap'] (w.alloc (.cells #[.slice ad l.length cap, .slice bd m.length cap'] 78)) from Box.new w _ _)
  go_enter Try.func60, Try.ntmps60
  go_wp2
  go_loopw [3] (fun i wr => ∃ j : Nat, j ≤ l.length ∧ i = .int .i64 j ∧ Below (w.alloc (.cells #[.slice ad l.length cap, .slice bd m.length cap'] 78)).heap.size (w.alloc (.cells #[.slice ad l.length cap, .slice bd m.length cap'] 78)) wr ∧ Hid (∀ i, i < j → ∀ k, k < l.length → i ≠ k → ¬ (nth l i ≤ nth l k ∧ nth m k ≤ nth m i))) (fun i _ => l.length - (intOf i).toNat)
  case atStart => exact ⟨0, by omega, rfl, Below.refl _ _, fun i hi => absurd hi (by omega)⟩
  case round =>
    obtain ⟨j, hj, rfl, hbel, HO⟩ := hrel
    have hB0 := F0.out.trans (hbel.mono F0.out.size)
    have HB0 := Lib.hid hB0
    have HBL := Lib.hid hbel
    have x0 : wr.cell? ⟨w.heap.size, 0, none⟩ = some (.slice ad l.length cap) := (A0.out.on HBL.out).1 0 _ rfl
    have x1 : wr.cell? ⟨w.heap.size, 1, none⟩ = some (.slice bd m.length cap') := (A0.out.on HBL.out).1 1 _ rfl
    by_cases hltj : j < l.length
    · clear hbel hB0
      go_wp2_with fail
      refine (specIsModel _ _ l m _ (HI.out.on HB0.out) (HJ.out.on HB0.out) hl hm).mono ?_
      rintro e w3 ⟨r, rfl, hr, hb3⟩
      have HRR := Lib.hid hr
      have HB3 := Lib.hid (HBL.out.trans (hb3.mono HBL.out.size))
      have HW3 := Lib.hid (F0.out.trans (HB3.out.mono F0.out.size))
      clear hr hb3 x0 x1
      have x0 : w3.cell? ⟨w.heap.size, 0, none⟩ = some (.slice ad l.length cap) := (A0.out.on HB3.out).1 0 _ rfl
      have x1 : w3.cell? ⟨w.heap.size, 1, none⟩ = some (.slice bd m.length cap') := (A0.out.on HB3.out).1 1 _ rfl
      cases r with
      | false =>
        have HN := Lib.hid (show ¬ ProperP l m from fun h => absurd (HRR.out.2 h.1) (by decide))
        go_wp2_with fail
        refine (specIsModel _ _ l m _ (HI.out.on HW3.out) (HJ.out.on HW3.out) hl hm).mono ?_
        rintro e w4 ⟨r, rfl, hr, hb4⟩
        have HR4 := Lib.hid hr
        have HW4 := Lib.hid (HW3.out.trans (hb4.mono HW3.out.size))
        clear hr hb4
        go_wp2
        go_ret
        exact ⟨r, rfl, by rw [HR4.out]; exact ⟨fun h => absurd (HRR.out.2 h) (by decide), fun h => absurd h HN.out⟩, HW4.out⟩
      | true =>
        have HV := Lib.hid (HRR.out.1 (by first | rfl | trivial))
        have hml : m.length = l.length := HV.out.2.1
        have HML := Lib.hid hml
        have hml1 : l.length ≤ m.length := by omega
        clear hml
        go_wp2
        clear x0 x1
        go_loopw [4] (fun i wr => ∃ k : Nat, k ≤ l.length ∧ i = .int .i64 k ∧ Below w3.heap.size w3 wr ∧ Hid (∀ i, i < k → j ≠ i → ¬ (nth l j ≤ nth l i ∧ nth m i ≤ nth m j))) (fun i _ => l.length - (intOf i).toNat)
        case atStart => exact ⟨0, by omega, rfl, Below.refl _ _, fun i hi => absurd hi (by omega)⟩
        case round =>
          obtain ⟨k, hk, rfl, hbel, HO2⟩ := hrel
          have HB5 := Lib.hid (HB3.out.trans (hbel.mono HB3.out.size))
          have HW5 := Lib.hid (HW3.out.trans (hbel.mono HW3.out.size))
          have x0 : wr.cell? ⟨w.heap.size, 0, none⟩ = some (.slice ad l.length cap) := (A0.out.on HB5.out).1 0 _ rfl
          have x1 : wr.cell? ⟨w.heap.size, 1, none⟩ = some (.slice bd m.length cap') := (A0.out.on HB5.out).1 1 _ rfl
          by_cases hltk : k < l.length
          · by_cases hjk : j = k
            · have d0 : ((j : Int) != (k : Int)) = false := by simp [hjk]
              have HN : Hid (∀ i, i < k + 1 → j ≠ i → ¬ (nth l j ≤ nth l i ∧ nth m i ≤ nth m j)) := fun i hi hne => by
                rcases Nat.lt_or_ge i k with h | h
                · exact HO2.out i h hne
                · exact absurd (show j = i by omega) hne
              clear hjk HO2
              go_wp2
              go_quiet (fail)
              go_wp2
              go_roundw
              case rel => exact ⟨k + 1, by omega, by go_num, below_drewN hbel _, HN.out⟩
              case measure => simp [intOf]; omega
            · have d0 : ((j : Int) != (k : Int)) = true := by simp; omega
              have HJK := Lib.hid hjk
              clear hjk
              have hB := HW5.out
              obtain ⟨b, off, cap1, hv, _, _, hb, hcell⟩ := (HI.out.on hB).pos (by omega)
              simp only [Value.slice.injEq] at hv
              obtain ⟨rfl, -, rfl⟩ := hv
              obtain ⟨b', off', cap1', hv, _, _, hb', hcell'⟩ := (HJ.out.on hB).pos (by omega)
              simp only [Value.slice.injEq] at hv
              obtain ⟨rfl, -, rfl⟩ := hv
              obtain ⟨x, hx⟩ : ∃ z, z = nth l j := ⟨_, rfl⟩
              obtain ⟨y, hy⟩ : ∃ z, z = nth m j := ⟨_, rfl⟩
              have c1 := hcell j hltj
              have c2 := hcell' j (by omega)
              rw [← hx] at c1
              rw [← hy] at c2
              have Hx := Lib.hid hx
              have Hy := Lib.hid hy
              clear hx hy
              obtain ⟨x', hx'⟩ : ∃ z, z = nth l k := ⟨_, rfl⟩
              obtain ⟨y', hy'⟩ : ∃ z, z = nth m k := ⟨_, rfl⟩
              have c3 := hcell k hltk
              have c4 := hcell' k (by omega)
              rw [← hx'] at c3
              rw [← hy'] at c4
              have Hx' := Lib.hid hx'
              have Hy' := Lib.hid hy'
              clear hx' hy'
              clear hcell hcell'
              have hltmj : j < m.length := by omega
              have hltmk : k < m.length := by omega
              clear hB
              by_cases g1 : x ≤ x'
              · have d1 : decide (x ≤ x') = true := by simp [g1]
                by_cases g2 : y' ≤ y
                · have d2 : decide (y' ≤ y) = true := by simp [g2]
                  have HN := Lib.hid (show ¬ ProperP l m from fun h => h.2 j hltj k hltk HJK.out ⟨by rw [← Hx.out, ← Hx'.out]; exact g1, by rw [← Hy.out, ← Hy'.out]; exact g2⟩)
                  clear g1 g2
                  go_wp2
                  go_quiet (fail)
                  go_wp2
                  go_ret
                  exact SaysB.no HN.out (below_drewN HW5.out _)
                · have d2 : decide (y' ≤ y) = false := by simp; omega
                  have HN : Hid (∀ i, i < k + 1 → j ≠ i → ¬ (nth l j ≤ nth l i ∧ nth m i ≤ nth m j)) := fun i hi hne => by
                    rcases Nat.lt_or_ge i k with h | h
                    · exact HO2.out i h hne
                    · obtain rfl : i = k := by omega
                      rw [← Hy.out, ← Hy'.out]; exact fun hh => g2 hh.2
                  clear g1 g2 HO2
                  go_wp2
                  go_quiet (fail)
                  go_wp2
                  go_roundw
                  case rel => exact ⟨k + 1, by omega, by go_num, below_drewN hbel _, HN.out⟩
                  case measure => simp [intOf]; omega
              · have d1 : decide (x ≤ x') = false := by simp; omega
                have HN : Hid (∀ i, i < k + 1 → j ≠ i → ¬ (nth l j ≤ nth l i ∧ nth m i ≤ nth m j)) := fun i hi hne => by
                  rcases Nat.lt_or_ge i k with h | h
                  · exact HO2.out i h hne
                  · obtain rfl : i = k := by omega
                    rw [← Hx.out, ← Hx'.out]; exact fun hh => g1 hh.1
                clear g1 HO2
                go_wp2
                go_quiet (fail)
                go_wp2
                go_roundw
                case rel => exact ⟨k + 1, by omega, by go_num, below_drewN hbel _, HN.out⟩
                case measure => simp [intOf]; omega
          · obtain rfl : k = l.length := by omega
            have HN : Hid (∀ i, i < j + 1 → ∀ k, k < l.length → i ≠ k → ¬ (nth l i ≤ nth l k ∧ nth m k ≤ nth m i)) := fun i hi k hk hne => by
              rcases Nat.lt_or_ge i j with h | h
              · exact HO.out i h k hk hne
              · obtain rfl : i = j := by omega
                exact HO2.out k hk hne
            clear hbel
            go_wp2
            go_roundw
            case rel => exact ⟨j + 1, by omega, by go_num, HB5.out, HN.out⟩
            case measure => simp [intOf]; omega
    · obtain rfl : j = l.length := by omega
      clear hbel hB0
      go_wp2_with fail
      refine (specIsModel _ _ l m _ (HI.out.on HB0.out) (HJ.out.on HB0.out) hl hm).mono ?_
      rintro e w4 ⟨r, rfl, hr, hb4⟩
      have HR4 := Lib.hid hr
      have HW4 := Lib.hid (HB0.out.trans (hb4.mono HB0.out.size))
      clear hr hb4
      go_wp2
      go_ret
      exact ⟨r, rfl, by rw [HR4.out]; exact ⟨fun h => ⟨h, HO.out⟩, fun h => h.1⟩, HW4.out⟩

/-- Which intervals hold a point. -/
def covN (l m : List Int) (t : Int) : Nat → Nat
  | 0 => 0
  | j + 1 => covN l m t j + (if nth l j ≤ t ∧ t ≤ nth m j then 2 ^ j else 0)

theorem covN_lt (l m : List Int) (t : Int) (j : Nat) : covN l m t j < 2 ^ j := by
  induction j with
  | zero => simp [covN]
  | succ j ih =>
    rw [covN, Nat.pow_succ]
    split <;> omega

def ptsR (l m : List Int) (t : Int) : Int := if IvP l m then ((covN l m t l.length : Nat) : Int) else 0

theorem or_fresh : ∀ (j : Fin 7) (c : Fin 128), c.val < 2 ^ j.val → bits .or .i64 ((c.val : Nat) : Int) ((2 ^ j.val : Nat) : Int) = ((c.val + 2 ^ j.val : Nat) : Int) := by decide +kernel

set_option maxHeartbeats 2000000 in
set_option maxRecDepth 100000 in
theorem implPoints (v u : Value) (l m : List Int) (t : Int) (w : World) (h : Ints w v l) (g : Ints w u m) (hl : l.length ≤ 1048576) (hm : m.length ≤ 1048576) :
    Calls Try.prog 63 #[.agg #[v, u], .int .i64 t] w fun e w' => e = .returned (.int .i64 (ptsR l m t)) ∧ Below w.heap.size w w' := by
  have HE1 := Lib.hid (show IvP l m → ptsR l m t = ((covN l m t l.length : Nat) : Int) from fun h => by unfold ptsR; rw [if_pos h])
  have HE2 := Lib.hid (show ¬ IvP l m → ptsR l m t = 0 from fun h => by unfold ptsR; rw [if_neg h])
  obtain ⟨R, hR⟩ : ∃ R, R = ptsR l m t := ⟨_, rfl⟩
  rw [← hR] at HE1 HE2 ⊢
  clear hR
  obtain ⟨ad, cap, rfl, -, -⟩ := h.form
  obtain ⟨bd, cap', rfl, -, -⟩ := g.form
  have HI := Lib.hid h
  have HJ := Lib.hid g
  clear h g
  have F0 := Lib.hid (show Below w.heap.size w (w.alloc (.cells #[.slice ad l.length cap, .slice bd m.length cap'] 78)) from (Below.refl _ w).alloc (Nat.le_refl _) _)
  have A0 := Lib.hid (show Box w.heap.size [.slice ad l.length cap, .slice bd m.length cap'] (w.alloc (.cells #[.slice ad l.length cap, .slice bd m.length cap'] 78)) from Box.new w _ _)
  obtain ⟨b, hbb⟩ : ∃ b, b = decide (IvP l m) := ⟨_, rfl⟩
  have HBB := Lib.hid hbb
  clear hbb
  go_enter Try.func63, Try.ntmps63
  go_wp2_with fail
  refine (intervalsOf_is _ _ l m _ (HI.out.on F0.out) (HJ.out.on F0.out) hl hm).mono ?_
  rintro e w1 ⟨v1, rfl, hy, hn, hb⟩
  have F1 := Lib.hid (F0.out.trans (hb.mono F0.out.size))
  rw [← HBB.out]
  clear hb
  by_cases hiv : IvP l m
  · obtain ⟨g, rfl, hg, hrow⟩ := hy hiv
    have HR := Lib.hid hrow
    have HV := Lib.hid hiv
    obtain rfl : b = true := by rw [HBB.out]; exact decide_eq_true hiv
    have h7 : l.length ≤ 7 := hiv.1.2
    clear hy hn hrow hiv
    have HE := Lib.hid (HE1.out HV.out)
    go_wp2
    go_loopw [7, 17] (fun c i wr => ∃ (j C : Nat), j ≤ l.length ∧ c = .int .i64 C ∧ i = .int .i64 j ∧ Below w1.heap.size w1 wr ∧ Hid (C = covN l m t j)) (fun _ i _ => l.length - (intOf i).toNat)
    case atStart => exact ⟨0, 0, by omega, rfl, rfl, Below.refl _ _, rfl⟩
    case round =>
      obtain ⟨j, C, hj, rfl, rfl, hbel, HC⟩ := hrel
      have HW := Lib.hid (F1.out.trans (hbel.mono F1.out.size))
      have hzr : w1.heap.size ≤ wr.heap.size := hbel.size
      by_cases hlt : j < l.length
      · skip
        have P3 := Lib.hid (HR.out.on hbel)
        obtain ⟨x, hx⟩ : ∃ x, x = nth l j := ⟨_, rfl⟩
        obtain ⟨y, hy⟩ : ∃ y, y = nth m j := ⟨_, rfl⟩
        have c1 := (P3.out.1 j hlt).1
        have c2 := (P3.out.1 j hlt).2
        rw [← hx] at c1
        rw [← hy] at c2
        have HX := Lib.hid hx
        have HY := Lib.hid hy
        clear hx hy
        have HBL := Lib.hid (hbel.alloc hzr (.cells #[.int .i64 x, .int .i64 y] 101))
        obtain ⟨P, hP⟩ : ∃ P, P = 2 ^ j := ⟨_, rfl⟩
        have p1 : (2 : Int) ^ j = (P : Int) := by rw [hP]; push_cast; rfl
        have hP1 : 1 ≤ P := by rw [hP]; exact Nat.pow_pos (by decide)
        have hP7 : P ≤ 64 := by rw [hP]; have := Nat.pow_le_pow_right (n := 2) (by decide) (show j ≤ 6 by omega); simpa using this
        have q1 : IntKind.i64.wrap (1 * (P : Int)) = P := IntWalk.i64_in _ (by omega) |>.trans (by omega)
        have hCl : C < P := by rw [HC.out, hP]; exact covN_lt _ _ _ _
        have q2 : bits .or .i64 (C : Int) (P : Int) = ((C + P : Nat) : Int) := by have := or_fresh ⟨j, by omega⟩ ⟨C, by omega⟩ (by rw [← hP]; exact hCl); rw [← hP] at this; exact this
        have HPP := Lib.hid hP
        clear hbel hP
        go_wp2_with fail
        refine (has_is x y t _).mono ?_
        rintro e w4 ⟨r, rfl, hr, hb4⟩
        have HRR := Lib.hid hr
        have HB4 := Lib.hid (HBL.out.trans (hb4.mono HBL.out.size))
        clear hb4 c1 c2 hr
        cases r with
        | false =>
          have HN := Lib.hid (show C = covN l m t (j + 1) by
            rw [covN, if_neg (fun h => absurd (HRR.out.2 (by rw [HX.out, HY.out]; exact h)) (by decide))]; exact HC.out)
          go_wp2
          go_roundw
          case rel => exact ⟨j + 1, C, by omega, rfl, by go_num, HB4.out, HN.out⟩
          case measure => simp [intOf]; omega
        | true =>
          have HN := Lib.hid (show C + P = covN l m t (j + 1) by
            rw [covN, if_pos (by rw [← HX.out, ← HY.out]; exact HRR.out.1 (by first | rfl | trivial)), ← HC.out, ← HPP.out])
          go_wp2
          go_roundw
          case rel => exact ⟨j + 1, C + P, by omega, rfl, by go_num, HB4.out, HN.out⟩
          case measure => simp [intOf]; omega
      · obtain rfl : j = l.length := by omega
        have HE3 := Lib.hid (show R = (C : Int) by rw [HE.out, HC.out])
        go_wp2
        go_ret
        exact ⟨by rw [HE3.out] <;> rfl, HW.out⟩
  · obtain rfl := hn hiv
    obtain rfl : b = false := by rw [HBB.out]; exact decide_eq_false hiv
    have HE := Lib.hid (HE2.out hiv)
    clear hy hn hiv
    go_wp2
    go_loopw [7, 17] (fun c i wr => c = .int .i64 0 ∧ i = .int .i64 0 ∧ wr = w1) (fun _ _ _ => 0)
    case atStart => exact ⟨rfl, rfl, rfl⟩
    case round =>
      obtain ⟨rfl, rfl, rfl⟩ := hrel
      go_wp2
      go_ret
      exact ⟨by rw [HE.out] <;> rfl, F1.out⟩

set_option maxHeartbeats 2000000 in
set_option maxRecDepth 100000 in
theorem specPoints (v u : Value) (l m : List Int) (t : Int) (w : World) (h : Ints w v l) (g : Ints w u m) (hl : l.length ≤ 1048576) (hm : m.length ≤ 1048576) :
    Calls Try.prog 62 #[.agg #[v, u], .int .i64 t] w fun e w' => e = .returned (.int .i64 (ptsR l m t)) ∧ Below w.heap.size w w' := by
  obtain ⟨ad, cap, rfl, -, -⟩ := h.form
  obtain ⟨bd, cap', rfl, -, -⟩ := g.form
  have HI := Lib.hid h
  have HJ := Lib.hid g
  clear h g
  have F0 := Lib.hid (show Below w.heap.size w (w.alloc (.cells #[.slice ad l.length cap, .slice bd m.length cap'] 78)) from (Below.refl _ w).alloc (Nat.le_refl _) _)
  have A0 := Lib.hid (show Box w.heap.size [.slice ad l.length cap, .slice bd m.length cap'] (w.alloc (.cells #[.slice ad l.length cap, .slice bd m.length cap'] 78)) from Box.new w _ _)
  have HG := Lib.hid (show 0 < l.length → ¬ IvP l m → ptsR l m t = 0 from fun _ h => by unfold ptsR; rw [if_neg h])
  have HE := Lib.hid (show IvP l m → ptsR l m t = ((covN l m t l.length : Nat) : Int) from fun h => by unfold ptsR; rw [if_pos h])
  have H00 := Lib.hid (show l.length = 0 → ptsR l m t = 0 from fun h => by unfold ptsR; rw [if_neg (fun h' => by have := h'.1.1; omega)])
  obtain ⟨R, hR⟩ : ∃ R, R = ptsR l m t := ⟨_, rfl⟩
  rw [← hR] at HG HE H00 ⊢
  clear hR
  go_enter Try.func62, Try.ntmps62
  go_wp2
  go_loopw [5, 6] (fun c i wr => ∃ (j C : Nat), j ≤ l.length ∧ c = .int .i64 C ∧ i = .int .i64 j ∧ Below (w.alloc (.cells #[.slice ad l.length cap, .slice bd m.length cap'] 78)).heap.size (w.alloc (.cells #[.slice ad l.length cap, .slice bd m.length cap'] 78)) wr ∧ Hid (C = covN l m t j) ∧ Hid (0 < j → IvP l m)) (fun _ i _ => l.length - (intOf i).toNat)
  case atStart => exact ⟨0, 0, by omega, rfl, rfl, Below.refl _ _, rfl, fun h => absurd h (by omega)⟩
  case round =>
    obtain ⟨j, C, hj, rfl, rfl, hbel, HC, HPOS⟩ := hrel
    have hB0 := F0.out.trans (hbel.mono F0.out.size)
    have HB0 := Lib.hid hB0
    have HBL := Lib.hid hbel
    have x0 : wr.cell? ⟨w.heap.size, 0, none⟩ = some (.slice ad l.length cap) := (A0.out.on HBL.out).1 0 _ rfl
    have x1 : wr.cell? ⟨w.heap.size, 1, none⟩ = some (.slice bd m.length cap') := (A0.out.on HBL.out).1 1 _ rfl
    by_cases hlt : j < l.length
    · clear hbel hB0
      go_wp2_with fail
      refine (specIsModel _ _ l m _ (HI.out.on HB0.out) (HJ.out.on HB0.out) hl hm).mono ?_
      rintro e w3 ⟨r, rfl, hr, hb3⟩
      have HRR := Lib.hid hr
      have HB3 := Lib.hid (HBL.out.trans (hb3.mono HBL.out.size))
      have HW3 := Lib.hid (F0.out.trans (HB3.out.mono F0.out.size))
      clear hr hb3 x0 x1
      have x0 : w3.cell? ⟨w.heap.size, 0, none⟩ = some (.slice ad l.length cap) := (A0.out.on HB3.out).1 0 _ rfl
      have x1 : w3.cell? ⟨w.heap.size, 1, none⟩ = some (.slice bd m.length cap') := (A0.out.on HB3.out).1 1 _ rfl
      cases r with
      | false =>
        have hno : ¬ IvP l m := fun h => absurd (HRR.out.2 h) (by decide)
        obtain rfl : j = 0 := by
          rcases Nat.eq_zero_or_pos j with h | h
          · exact h
          · exact absurd (HPOS.out h) hno
        have HN := Lib.hid (show R = 0 from HG.out (by omega) hno)
        obtain rfl : C = 0 := HC.out
        clear hno
        go_wp2
        go_ret
        exact ⟨by rw [HN.out] <;> rfl, HW3.out⟩
      | true =>
        have HV := Lib.hid (HRR.out.1 (by first | rfl | trivial))
        have h7 : l.length ≤ 7 := HV.out.1.2
        have hB := HW3.out
        have hltm : j < m.length := by have := HV.out.2.1; omega
        obtain ⟨b, off, cap1, hv, _, _, hb, hcell⟩ := (HI.out.on hB).pos (by omega)
        simp only [Value.slice.injEq] at hv
        obtain ⟨rfl, -, rfl⟩ := hv
        obtain ⟨b', off', cap1', hv, _, _, hb', hcell'⟩ := (HJ.out.on hB).pos (by omega)
        simp only [Value.slice.injEq] at hv
        obtain ⟨rfl, -, rfl⟩ := hv
        obtain ⟨x, hx⟩ : ∃ x, x = nth l j := ⟨_, rfl⟩
        obtain ⟨y, hy⟩ : ∃ y, y = nth m j := ⟨_, rfl⟩
        have c1 := hcell j hlt
        have c2 := hcell' j hltm
        rw [← hx] at c1
        rw [← hy] at c2
        have HX := Lib.hid hx
        have HY := Lib.hid hy
        have hxy := HV.out.2.2 j hlt
        rw [← hx, ← hy] at hxy
        obtain ⟨P, hP⟩ : ∃ P, P = 2 ^ j := ⟨_, rfl⟩
        have p1 : (2 : Int) ^ j = (P : Int) := by rw [hP]; push_cast; rfl
        have hP1 : 1 ≤ P := by rw [hP]; exact Nat.pow_pos (by decide)
        have hP7 : P ≤ 64 := by rw [hP]; have := Nat.pow_le_pow_right (n := 2) (by decide) (show j ≤ 6 by omega); simpa using this
        have q1 : IntKind.i64.wrap (1 * (P : Int)) = P := IntWalk.i64_in _ (by omega) |>.trans (by omega)
        have hCl : C < P := by rw [HC.out, hP]; exact covN_lt _ _ _ _
        have q2 : IntKind.i64.wrap ((C : Int) + (P : Int)) = ((C + P : Nat) : Int) := IntWalk.i64_in _ (by omega) |>.trans (by omega)
        have HPP := Lib.hid hP
        clear hcell hcell' hx hy hxy hB hP
        by_cases g1 : x ≤ t
        · have d1 : decide (x ≤ t) = true := by simp [g1]
          by_cases g2 : t ≤ y
          · have d2 : decide (t ≤ y) = true := by simp [g2]
            have HN := Lib.hid (show C + P = covN l m t (j + 1) by
              rw [covN, if_pos (by rw [← HX.out, ← HY.out]; exact ⟨g1, g2⟩), ← HC.out, ← HPP.out])
            clear g1 g2
            go_wp2
            go_roundw
            case rel => exact ⟨j + 1, C + P, by omega, rfl, by go_num, HB3.out, HN.out, fun _ => HV.out⟩
            case measure => simp [intOf]; omega
          · have d2 : decide (t ≤ y) = false := by simp; omega
            have HN := Lib.hid (show C = covN l m t (j + 1) by
              rw [covN, if_neg (by rw [← HX.out, ← HY.out]; exact fun h => g2 h.2)]; exact HC.out)
            clear g1 g2
            go_wp2
            go_roundw
            case rel => exact ⟨j + 1, C, by omega, rfl, by go_num, HB3.out, HN.out, fun _ => HV.out⟩
            case measure => simp [intOf]; omega
        · have d1 : decide (x ≤ t) = false := by simp; omega
          have HN := Lib.hid (show C = covN l m t (j + 1) by
            rw [covN, if_neg (by rw [← HX.out, ← HY.out]; exact fun h => g1 h.1)]; exact HC.out)
          clear g1
          go_wp2
          go_roundw
          case rel => exact ⟨j + 1, C, by omega, rfl, by go_num, HB3.out, HN.out, fun _ => HV.out⟩
          case measure => simp [intOf]; omega
    · obtain rfl : j = l.length := by omega
      have HN := Lib.hid (show R = (C : Int) by
        rcases Nat.eq_zero_or_pos l.length with h | h
        · rw [H00.out h, HC.out, h]; rfl
        · rw [HE.out (HPOS.out h), HC.out])
      go_wp2
      go_ret
      exact ⟨by rw [HN.out] <;> rfl, HB0.out⟩

end Go.Proofs.Ytbmpljclplddeaa
