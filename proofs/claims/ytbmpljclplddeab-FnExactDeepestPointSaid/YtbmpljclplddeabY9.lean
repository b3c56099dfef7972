/- Models by intervals: the specification's IsProperModel, PointsCovered. -/
import Derived.Test.YtbmpljclplddeabY8
namespace Go.Proofs.Ytbmpljclplddeab
set_option linter.unusedVariables false
set_option linter.unusedSimpArgs false
open Go.RowKit

/-- Which intervals hold a point. -/
def covN (l m : List Int) (t : Int) : Nat → Nat
  | 0 => 0
  | j + 1 => covN l m t j + (if nth l j ≤ t ∧ t ≤ nth m j then 2 ^ j else 0)

theorem covN_lt (l m : List Int) (t : Int) (j : Nat) : covN l m t j < 2 ^ j := by
  induction j with
  | zero => simp [covN]
  | succ j ih =>
    rw [covN, Nat.pow_succ]
    split <;> omega

def ptsR (l m : List Int) (t : Int) : Int := if IvP l m then ((covN l m t l.length : Nat) : Int) else 0

theorem or_fresh : ∀ (j : Fin 7) (c : Fin 128), c.val < 2 ^ j.val → bits .or .i64 ((c.val : Nat) : Int) ((2 ^ j.val : Nat) : Int) = ((c.val + 2 ^ j.val : Nat) : Int) := by decide +kernel

set_option maxHeartbeats 2000000 in
set_option maxRecDepth 100000 in
theorem implPoints (v u : Value) (l m : List Int) (t : Int) (w : World) (h : Ints w v l) (g : Ints w u m) (hl : l.length ≤ 1048576) (hm : m.length ≤ 1048576) :
    Calls Try.prog 60 #[.agg #[v, u], .int .i64 t] w fun e w' => e = .returned (.int .i64 (ptsR l m t)) ∧ Below w.heap.size w w' := by
  have HE1 := Lib.hid (show IvP l m → ptsR l m t = ((covN l m t l.length : Nat) : Int) from fun h => by unfold ptsR; rw [if_pos h])
  have HE2 := Lib.hid (show ¬ IvP l m → ptsR l m t = 0 from fun h => by unfold ptsR; rw [if_neg h])
  obtain ⟨R, hR⟩ : ∃ R, R = ptsR l m t := ⟨_, rfl⟩
  rw [← hR] at HE1 HE2 ⊢
  clear hR
  obtain ⟨ad, cap, rfl, -, -⟩ := h.form
  obtain ⟨bd, cap', rfl, -, -⟩ := g.form
  have HI := Lib.hid h
  have HJ := Lib.hid g
  clear h g
  have F0 := Lib.hid (show Below w.heap.size w (w.alloc (.cells #[.slice ad l.length cap, .slice bd m.length cap'] 28)) from (Below.refl _ w).alloc (Nat.le_refl _) _)
  have A0 := Lib.hid (show Box w.heap.size [.slice ad l.length cap, .slice bd m.length cap'] (w.alloc (.cells #[.slice ad l.length cap, .slice bd m.length cap'] 28)) from Box.new w _ _)
  obtain ⟨b, hbb⟩ : ∃ b, b = decide (IvP l m) := ⟨_, rfl⟩
  have HBB := Lib.hid hbb
  clear hbb
  go_enter Try.func60, Try.ntmps60
  go_wp2_with fail
  refine (intervalsOf_is _ _ l m _ (HI.out.on F0.out) (HJ.out.on F0.out) hl hm).mono ?_
  rintro e w1 ⟨v1, rfl, hy, hn, hb⟩
  have F1 := Lib.hid (F0.out.trans (hb.mono F0.out.size))
  rw [← HBB.out]
  clear hb
  by_cases hiv : IvP l m
  · obtain ⟨g, rfl, hg, hrow⟩ := hy hiv
    have HR := Lib.hid hrow
    have HV := Lib.hid hiv
    obtain rfl : b = true := by rw [HBB.out]; exact decide_eq_true hiv
    have h7 : l.length ≤ 7 := hiv.1.2
    clear hy hn hrow hiv
    have HE := Lib.hid (HE1.out HV.out)
    go_wp2
    go_loopw [7, 17] (fun c i wr => ∃ (j C : Nat), j ≤ l.length ∧ c = .int .i64 C ∧ i = .int .i64 j ∧ Below w1.heap.size w1 wr ∧ Hid (C = covN l m t j)) (fun _ i _ => l.length - (intOf i).toNat)
    case atStart => exact ⟨0, 0, by omega, rfl, rfl, Below.refl _ _, rfl⟩
    case round =>
      obtain ⟨j, C, hj, rfl, rfl, hbel, HC⟩ := hrel
      have HW := Lib.hid (F1.out.trans (hbel.mono F1.out.size))
      have hzr : w1.heap.size ≤ wr.heap.size := hbel.size
      by_cases hlt : j < l.length
      · skip
        have P3 := Lib.hid (HR.out.on hbel)
        obtain ⟨x, hx⟩ : ∃ x, x = nth l j := ⟨_, rfl⟩
        obtain ⟨y, hy⟩ : ∃ y, y = nth m j := ⟨_, rfl⟩
        have c1 := (P3.out.1 j hlt).1
        have c2 := (P3.out.1 j hlt).2
        rw [← hx] at c1
        rw [← hy] at c2
        have HX := Lib.hid hx
        have HY := Lib.hid hy
        clear hx hy
        have HBL := Lib.hid (hbel.alloc hzr (.cells #[.int .i64 x, .int .i64 y] 81))
        obtain ⟨P, hP⟩ : ∃ P, P = 2 ^ j := ⟨_, rfl⟩
        have p1 : (2 : Int) ^ j = (P : Int) := by rw [hP]; push_cast; rfl
        have hP1 : 1 ≤ P := by rw [hP]; exact Nat.pow_pos (by decide)
        have hP7 : P ≤ 64 := by rw [hP]; have := Nat.pow_le_pow_right (n := 2) (by decide) (show j ≤ 6 by omega); simpa using this
        have q1 : IntKind.i64.wrap (1 * (P : Int)) = P := IntWalk.i64_in _ (by omega) |>.trans (by omega)
        have hCl : C < P := by rw [HC.out, hP]; exact covN_lt _ _ _ _
        have q2 : bits .or .i64 (C : Int) (P : Int) = ((C + P : Nat) : Int) := by have := or_fresh ⟨j, by omega⟩ ⟨C, by omega⟩ (by rw [← hP]; exact hCl); rw [← hP] at this; exact this
        have HPP := Lib.hid hP
        clear hbel hP
        go_wp2_with fail
        refine (has_is x y t _).mono ?_
        rintro e w4 ⟨r, rfl, hr, hb4⟩
        have HRR := Lib.hid hr
        have HB4 := Lib.hid (HBL.out.trans (hb4.mono HBL.out.size))
        clear hb4 c1 c2 hr
        cases r with
        | false =>
          have HN := Lib.hid (show C = covN l m t (j + 1) by
            rw [covN, if_neg (fun h => absurd (HRR.out.2 (by rw [HX.out, HY.out]; exact h)) (by decide))]; exact HC.out)
          go_wp2
          go_roundw
          case rel => exact ⟨j + 1, C, by omega, rfl, by go_num, HB4.out, HN.out⟩
          case measure => simp [intOf]; omega
        | true =>
          have HN := Lib.hid (show C + P = covN l m t (j + 1) by
            rw [covN, if_pos (by rw [← HX.out, ← HY.out]; exact HRR.out.1 (by first | rfl | trivial)), ← HC.out, ← HPP.out])
          go_wp2
          go_roundw
          case rel => exact ⟨j + 1, C + P, by omega, rfl, by go_num, HB4.out, HN.out⟩
          case measure => simp [intOf]; omega
      · obtain rfl : j = l.length := by omega
        have HE3 := Lib.hid (show R = (C : Int) by rw [HE.out, HC.out])
        go_wp2
        go_ret
        exact ⟨by rw [HE3.out] <;> rfl, HW.out⟩
  · obtain rfl := hn hiv
    obtain rfl : b = false := by rw [HBB.out]; exact decide_eq_false hiv
    have HE := Lib.hid (HE2.out hiv)
    clear hy hn hiv
    go_wp2
    go_loopw [7, 17] (fun c i wr => c = .int .i64 0 ∧ i = .int .i64 0 ∧ wr = w1) (fun _ _ _ => 0)
    case atStart => exact ⟨rfl, rfl, rfl⟩
    case round =>
      obtain ⟨rfl, rfl, rfl⟩ := hrel
      go_wp2
      go_ret
      exact ⟨by rw [HE.out] <;> rfl, F1.out⟩

set_option maxHeartbeats 2000000 in
set_option maxRecDepth 100000 in
theorem specPoints (v u : Value) (l m : List Int) (t : Int) (w : World) (h : Ints w v l) (g : Ints w u m) (hl : l.length ≤ 1048576) (hm : m.length ≤ 1048576) :
    Calls Try.prog 58 #[.agg #[v, u], .int .i64 t] w fun e w' => e = .returned (.int .i64 (ptsR l m t)) ∧ Below w.heap.size w w' := by
  obtain ⟨ad, cap, rfl, -, -⟩ := h.form
  obtain ⟨bd, cap', rfl, -, -⟩ := g.form
  have HI := Lib.hid h
  have HJ := Lib.hid g
  clear h g
  have F0 := Lib.hid (show Below w.heap.size w (w.alloc (.cells #[.slice ad l.length cap, .slice bd m.length cap'] 28)) from (Below.refl _ w).alloc (Nat.le_refl _) _)
  have A0 := Lib.hid (show Box w.heap.size [.slice ad l.length cap, .slice bd m.length cap'] (w.alloc (.cells #[.slice ad l.length cap, .slice bd m.length cap'] 28)) from Box.new w _ _)
  have HG := Lib.hid (show 0 < l.length → ¬ IvP l m → ptsR l m t = 0 from fun _ h => by unfold ptsR; rw [if_neg h])
  have HE := Lib.hid (show IvP l m → ptsR l m t = ((covN l m t l.length : Nat) : Int) from fun h => by unfold ptsR; rw [if_pos h])
  have H00 := Lib.hid (show l.length = 0 → ptsR l m t = 0 from fun h => by unfold ptsR; rw [if_neg (fun h' => by have := h'.1.1; omega)])
  obtain ⟨R, hR⟩ : ∃ R, R = ptsR l m t := ⟨_, rfl⟩
  rw [← hR] at HG HE H00 ⊢
  clear hR
  go_enter Try.func58, Try.ntmps58
  go_wp2
  go_loopw [5, 6] (fun c i wr => ∃ (j C : Nat), j ≤ l.length ∧ c = .int .i64 C ∧ i = .int .i64 j ∧ Below (w.alloc (.cells #[.slice ad l.length cap, .slice bd m.length cap'] 28)).heap.size (w.alloc (.cells #[.slice ad l.length cap, .slice bd m.length cap'] 28)) wr ∧ Hid (C = covN l m t j) ∧ Hid (0 < j → IvP l m)) (fun _ i _ => l.length - (intOf i).toNat)
  case atStart => exact ⟨0, 0, by omega, rfl, rfl, Below.refl _ _, rfl, fun h => absurd h (by omega)⟩
  case round =>
    obtain ⟨j, C, hj, rfl, rfl, hbel, HC, HPOS⟩ := hrel
    have hB0 := F0.out.trans (hbel.mono F0.out.size)
    have HB0 := Lib.hid hB0
    have HBL := Lib.hid hbel
    have x0 : wr.cell? ⟨w.heap.size, 0, none⟩ = some (.slice ad l.length cap) := (A0.out.on HBL.out).1 0 _ rfl
    have x1 : wr.cell? ⟨w.heap.size, 1, none⟩ = some (.slice bd m.length cap') := (A0.out.on HBL.out).1 1 _ rfl
    by_cases hlt : j < l.length
    · clear hbel hB0
      go_wp2_with fail
      refine (specIsModel _ _ l m _ (HI.out.on HB0.out) (HJ.out.on HB0.out) hl hm).mono ?_
      rintro e w3 ⟨r, rfl, hr, hb3⟩
      have HRR := Lib.hid hr
      have HB3 := Lib.hid (HBL.out.trans (hb3.mono HBL.out.size))
      have HW3 := Lib.hid (F0.out.trans (HB3.out.mono F0.out.size))
      clear hr hb3 x0 x1
      have x0 : w3.cell? ⟨w.heap.size, 0, none⟩ = some (.slice ad l.length cap) := (A0.out.on HB3.out).1 0 _ rfl
      have x1 : w3.cell? ⟨w.heap.size, 1, none⟩ = some (.slice bd m.length cap') := (A0.out.on HB3.out).1 1 _ rfl
      cases r with
      | false =>
        have hno : ¬ IvP l m := fun h => absurd (HRR.out.2 h) (by decide)
        obtain rfl : j = 0 := by
          rcases Nat.eq_zero_or_pos j with h | h
          · exact h
          · exact absurd (HPOS.out h) hno
        have HN := Lib.hid (show R = 0 from HG.out (by omega) hno)
        obtain rfl : C = 0 := HC.out
        clear hno
        go_wp2
        go_ret
        exact ⟨by rw [HN.out] <;> rfl, HW3.out⟩
      | true =>
        have HV := Lib.hid (HRR.out.1 (by first | rfl | trivial))
        have h7 : l.length ≤ 7 := HV.out.1.2
        have hB := HW3.out
        have hltm : j < m.length := by have := HV.out.2.1; omega
        obtain ⟨b, off, cap1, hv, _, _, hb, hcell⟩ := (HI.out.on hB).pos (by omega)
        simp only [Value.slice.injEq] at hv
        obtain ⟨rfl, -, rfl⟩ := hv
        obtain ⟨b', off', cap1', hv, _, _, hb', hcell'⟩ := (HJ.out.on hB).pos (by omega)
        simp only [Value.slice.injEq] at hv
        obtain ⟨rfl, -, rfl⟩ := hv
        obtain ⟨x, hx⟩ : ∃ x, x = nth l j := ⟨_, rfl⟩
        obtain ⟨y, hy⟩ : ∃ y, y = nth m j := ⟨_, rfl⟩
        have c1 := hcell j hlt
        have c2 := hcell' j hltm
        rw [← hx] at c1
        rw [← hy] at c2
        have HX := Lib.hid hx
        have HY := Lib.hid hy
        have hxy := HV.out.2.2 j hlt
        rw [← hx, ← hy] at hxy
        obtain ⟨P, hP⟩ : ∃ P, P = 2 ^ j := ⟨_, rfl⟩
        have p1 : (2 : Int) ^ j = (P : Int) := by rw [hP]; push_cast; rfl
        have hP1 : 1 ≤ P := by rw [hP]; exact Nat.pow_pos (by decide)
        have hP7 : P ≤ 64 := by rw [hP]; have := Nat.pow_le_pow_right (n := 2) (by decide) (show j ≤ 6 by omega); simpa using this
        have q1 : IntKind.i64.wrap (1 * (P : Int)) = P := IntWalk.i64_in _ (by omega) |>.trans (by omega)
        have hCl : C < P := by rw [HC.out, hP]; exact covN_lt _ _ _ _
        have q2 : IntKind.i64.wrap ((C : Int) + (P : Int)) = ((C + P : Nat) : Int) := IntWalk.i64_in _ (by omega) |>.trans (by omega)
        have HPP := Lib.hid hP
        clear hcell hcell' hx hy hxy hB hP
        by_cases g1 : x ≤ t
        · have d1 : decide (x ≤ t) = true := by simp [g1]
          by_cases g2 : t ≤ y
          · have d2 : decide (t ≤ y) = true := by simp [g2]
            have HN := Lib.hid (show C + P = covN l m t (j + 1) by
              rw [covN, if_pos (by rw [← HX.out, ← HY.out]; exact ⟨g1, g2⟩), ← HC.out, ← HPP.out])
            clear g1 g2
            go_wp2
            go_roundw
            case rel => exact ⟨j + 1, C + P, by omega, rfl, by go_num, HB3.out, HN.out, fun _ => HV.out⟩
            case measure => simp [intOf]; omega
          · have d2 : decide (t ≤ y) = false := by simp; omega
            have HN := Lib.hid (show C = covN l m t (j + 1) by
              rw [covN, if_neg (by rw [← HX.out, ← HY.out]; exact fun h => g2 h.2)]; exact HC.out)
            clear g1 g2
            go_wp2
            go_roundw
            case rel => exact ⟨j + 1, C, by omega, rfl, by go_num, HB3.out, HN.out, fun _ => HV.out⟩
            case measure => simp [intOf]; omega
        · have d1 : decide (x ≤ t) = false := by simp; omega
          have HN := Lib.hid (show C = covN l m t (j + 1) by
            rw [covN, if_neg (by rw [← HX.out, ← HY.out]; exact fun h => g1 h.1)]; exact HC.out)
          clear g1
          go_wp2
          go_roundw
          case rel => exact ⟨j + 1, C, by omega, rfl, by go_num, HB3.out, HN.out, fun _ => HV.out⟩
          case measure => simp [intOf]; omega
    · obtain rfl : j = l.length := by omega
      have HN := Lib.hid (show R = (C : Int) by
        rcases Nat.eq_zero_or_pos l.length with h | h
        · rw [H00.out h, HC.out, h]; rfl
        · rw [HE.out (HPOS.out h), HC.out])
      go_wp2
      go_ret
      exact ⟨by rw [HN.out] <;> rfl, HB0.out⟩

end Go.Proofs.Ytbmpljclplddeab
