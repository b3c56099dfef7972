/- Models by intervals: DeepestPoint. -/
import Derived.Test.YtbmpljclplddeabY9
import Derived.Test.YtbmpljclplddeabH3
namespace Go.Proofs.Ytbmpljclplddeab
set_option linter.unusedVariables false
set_option linter.unusedSimpArgs false
open Go.RowKit

/-- The first point of those before x that lies in most intervals, and in how many. -/
def deepF (l m : List Int) : Nat → Int × Int
  | 0 => (0, 0)
  | x + 1 => if (deepF l m x).2 < popU (ptsR l m x) then ((x : Int), popU (ptsR l m x)) else deepF l m x

theorem deep_none (l m : List Int) (h : ¬ IvP l m) (x : Nat) : deepF l m x = (0, 0) := by
  induction x with
  | zero => rfl
  | succ x ih =>
    have h0 : popU (ptsR l m x) = 0 := by unfold ptsR; rw [if_neg h]; decide
    rw [deepF, ih, h0]
    rfl

theorem deep_yes {l m : List Int} {j : Nat} {A B N : Int} (h : (A, B) = deepF l m j) (hN : N = popU (ptsR l m j)) (hlt : B < N) : ((j : Int), N) = deepF l m (j + 1) := by
  rw [deepF, ← h, ← hN, if_pos hlt]

theorem deep_no {l m : List Int} {j : Nat} {A B N : Int} (h : (A, B) = deepF l m j) (hN : N = popU (ptsR l m j)) (hlt : ¬ B < N) : (A, B) = deepF l m (j + 1) := by
  rw [deepF, ← h, ← hN, if_neg hlt]

set_option maxHeartbeats 2000000 in
set_option maxRecDepth 100000 in
theorem implDeepest (v u : Value) (l m : List Int) (w : World) (h : Ints w v l) (g : Ints w u m) (hl : l.length ≤ 1048576) (hm : m.length ≤ 1048576) :
    Calls Try.prog 17 #[.agg #[v, u]] w (fun e w' => e = .returned (.tuple #[.int .i64 (deepF l m 100).1, .int .i64 (deepF l m 100).2]) ∧ Below w.heap.size w w') := by
  obtain ⟨ad, cap, rfl, -, -⟩ := h.form
  obtain ⟨bd, cap', rfl, -, -⟩ := g.form
  have HI := Lib.hid h
  have HJ := Lib.hid g
  clear h g
  have F0 := Lib.hid (show Below w.heap.size w (w.alloc (.cells #[.slice ad l.length cap, .slice bd m.length cap'] 28)) from (Below.refl _ w).alloc (Nat.le_refl _) _)
  have A0 := Lib.hid (show Box w.heap.size [.slice ad l.length cap, .slice bd m.length cap'] (w.alloc (.cells #[.slice ad l.length cap, .slice bd m.length cap'] 28)) from Box.new w _ _)
  obtain ⟨R, hR⟩ : ∃ R, R = deepF l m 100 := ⟨_, rfl⟩
  have HRR := Lib.hid hR
  rw [← hR]
  clear hR
  go_enter Try.func17, Try.ntmps17
  go_wp2
  go_loopw [4, 5, 8] (fun d c i wr => ∃ (j : Nat) (A B : Int), j ≤ 100 ∧ d = .int .i64 A ∧ c = .int .i64 B ∧ i = .int .i64 j ∧ Below (w.alloc (.cells #[.slice ad l.length cap, .slice bd m.length cap'] 28)).heap.size (w.alloc (.cells #[.slice ad l.length cap, .slice bd m.length cap'] 28)) wr ∧ Hid ((A, B) = deepF l m j)) (fun _ _ i _ => 100 - (intOf i).toNat)
  case atStart => exact ⟨0, 0, 0, by omega, rfl, rfl, rfl, Below.refl _ _, rfl⟩
  case round =>
    obtain ⟨j, A, B, hj, rfl, rfl, rfl, hbel, HD⟩ := hrel
    have HW := Lib.hid (F0.out.trans (hbel.mono F0.out.size))
    have HBL := Lib.hid hbel
    have x0 : wr.cell? ⟨w.heap.size, 0, none⟩ = some (.slice ad l.length cap) := (A0.out.on HBL.out).1 0 _ rfl
    have x1 : wr.cell? ⟨w.heap.size, 1, none⟩ = some (.slice bd m.length cap') := (A0.out.on HBL.out).1 1 _ rfl
    by_cases hlt : j < 100
    · have hji : (j : Int) < 100 := by omega
      clear hbel
      go_wp2_with fail
      refine (implPoints _ _ l m (j : Int) _ (HI.out.on HW.out) (HJ.out.on HW.out) hl hm).mono ?_
      rintro e w3 ⟨rfl, hb3⟩
      have HB3 := Lib.hid (HBL.out.trans (hb3.mono HBL.out.size))
      obtain ⟨X, hX⟩ : ∃ X, X = ptsR l m j := ⟨_, rfl⟩
      have HX := Lib.hid hX
      rw [← hX]
      clear hb3 hX x0 x1
      go_wp2_with fail
      refine (implCountSet X _).mono ?_
      rintro e w4 ⟨rfl, rfl⟩
      obtain ⟨N, hN⟩ : ∃ N, N = popU X := ⟨_, rfl⟩
      have HN := Lib.hid (show N = popU (ptsR l m j) by rw [hN, HX.out])
      rw [← hN]
      clear hN
      by_cases hlt2 : B < N
      · have d0 : decide (B < N) = true := by simp [hlt2]
        have HS := Lib.hid (deep_yes HD.out HN.out hlt2)
        clear hlt2
        go_wp2
        go_roundw
        case rel => exact ⟨j + 1, j, N, by omega, rfl, rfl, by go_num, HB3.out, HS.out⟩
        case measure => simp [intOf]; omega
      · have d0 : decide (B < N) = false := by simp; omega
        have HS := Lib.hid (deep_no HD.out HN.out hlt2)
        clear hlt2
        go_wp2
        go_roundw
        case rel => exact ⟨j + 1, A, B, by omega, rfl, rfl, by go_num, HB3.out, HS.out⟩
        case measure => simp [intOf]; omega
    · obtain rfl : j = 100 := by omega
      have HE1 := Lib.hid (show R.1 = A by rw [HRR.out, ← HD.out])
      have HE2 := Lib.hid (show R.2 = B by rw [HRR.out, ← HD.out])
      go_wp2
      go_ret2
      exact ⟨by rw [HE1.out, HE2.out] <;> rfl, HW.out⟩

set_option maxHeartbeats 2000000 in
set_option maxRecDepth 100000 in
theorem specDeepest (v u : Value) (l m : List Int) (w : World) (h : Ints w v l) (g : Ints w u m) (hl : l.length ≤ 1048576) (hm : m.length ≤ 1048576) :
    Calls Try.prog 15 #[.agg #[v, u]] w (fun e w' => e = .returned (.tuple #[.int .i64 (deepF l m 100).1, .int .i64 (deepF l m 100).2]) ∧ Below w.heap.size w w') := by
  obtain ⟨ad, cap, rfl, -, -⟩ := h.form
  obtain ⟨bd, cap', rfl, -, -⟩ := g.form
  have HI := Lib.hid h
  have HJ := Lib.hid g
  clear h g
  have F0 := Lib.hid (show Below w.heap.size w (w.alloc (.cells #[.slice ad l.length cap, .slice bd m.length cap'] 28)) from (Below.refl _ w).alloc (Nat.le_refl _) _)
  have A0 := Lib.hid (show Box w.heap.size [.slice ad l.length cap, .slice bd m.length cap'] (w.alloc (.cells #[.slice ad l.length cap, .slice bd m.length cap'] 28)) from Box.new w _ _)
  obtain ⟨R, hR⟩ : ∃ R, R = deepF l m 100 := ⟨_, rfl⟩
  have HRR := Lib.hid hR
  rw [← hR]
  clear hR
  go_enter Try.func15, Try.ntmps15
  go_wp2
  go_loopw [4, 5, 6] (fun d c i wr => ∃ (j : Nat) (A B : Int), j ≤ 100 ∧ d = .int .i64 A ∧ c = .int .i64 B ∧ i = .int .i64 j ∧ Below (w.alloc (.cells #[.slice ad l.length cap, .slice bd m.length cap'] 28)).heap.size (w.alloc (.cells #[.slice ad l.length cap, .slice bd m.length cap'] 28)) wr ∧ Hid ((A, B) = deepF l m j)) (fun _ _ i _ => 100 - (intOf i).toNat)
  case atStart => exact ⟨0, 0, 0, by omega, rfl, rfl, rfl, Below.refl _ _, rfl⟩
  case round =>
    obtain ⟨j, A, B, hj, rfl, rfl, rfl, hbel, HD⟩ := hrel
    have HW := Lib.hid (F0.out.trans (hbel.mono F0.out.size))
    have HBL := Lib.hid hbel
    have x0 : wr.cell? ⟨w.heap.size, 0, none⟩ = some (.slice ad l.length cap) := (A0.out.on HBL.out).1 0 _ rfl
    have x1 : wr.cell? ⟨w.heap.size, 1, none⟩ = some (.slice bd m.length cap') := (A0.out.on HBL.out).1 1 _ rfl
    by_cases hlt : j < 100
    · have hji : (j : Int) ≤ 99 := by omega
      clear hbel
      go_wp2_with fail
      refine (specIsModel _ _ l m _ (HI.out.on HW.out) (HJ.out.on HW.out) hl hm).mono ?_
      rintro e w2 ⟨r, rfl, hr, hb2⟩
      have HR2 := Lib.hid hr
      have HB2 := Lib.hid (HBL.out.trans (hb2.mono HBL.out.size))
      have HW2 := Lib.hid (F0.out.trans (HB2.out.mono F0.out.size))
      clear hr hb2 x0 x1
      have x0 : w2.cell? ⟨w.heap.size, 0, none⟩ = some (.slice ad l.length cap) := (A0.out.on HB2.out).1 0 _ rfl
      have x1 : w2.cell? ⟨w.heap.size, 1, none⟩ = some (.slice bd m.length cap') := (A0.out.on HB2.out).1 1 _ rfl
      cases r with
      | false =>
        have hno : ¬ IvP l m := fun h => absurd (HR2.out.2 h) (by decide)
        have HE1 := Lib.hid (show R.1 = A by have h1 := HD.out; rw [deep_none l m hno] at h1; rw [HRR.out, deep_none l m hno, ← h1])
        have HE2 := Lib.hid (show R.2 = B by have h1 := HD.out; rw [deep_none l m hno] at h1; rw [HRR.out, deep_none l m hno, ← h1])
        clear hno
        go_wp2
        go_ret2
        exact ⟨by rw [HE1.out, HE2.out] <;> rfl, HW2.out⟩
      | true =>
        go_wp2_with fail
        refine (specPoints _ _ l m (j : Int) _ (HI.out.on HW2.out) (HJ.out.on HW2.out) hl hm).mono ?_
        rintro e w3 ⟨rfl, hb3⟩
        have HB3 := Lib.hid (HB2.out.trans (hb3.mono HB2.out.size))
        obtain ⟨X, hX⟩ : ∃ X, X = ptsR l m j := ⟨_, rfl⟩
        have HX := Lib.hid hX
        rw [← hX]
        clear hb3 hX x0 x1
        go_wp2_with fail
        refine (specCountSet X _).mono ?_
        rintro e w4 ⟨rfl, hb4⟩
        have HB4 := Lib.hid (HB3.out.trans (hb4.mono HB3.out.size))
        obtain ⟨N, hN⟩ : ∃ N, N = popU X := ⟨_, rfl⟩
        have HN := Lib.hid (show N = popU (ptsR l m j) by rw [hN, HX.out])
        rw [← hN]
        clear hN hb4
        by_cases hlt2 : B < N
        · have d0 : decide (B < N) = true := by simp [hlt2]
          have HS := Lib.hid (deep_yes HD.out HN.out hlt2)
          clear hlt2
          go_wp2
          go_roundw
          case rel => exact ⟨j + 1, j, N, by omega, rfl, rfl, by go_num, HB4.out, HS.out⟩
          case measure => simp [intOf]; omega
        · have d0 : decide (B < N) = false := by simp; omega
          have HS := Lib.hid (deep_no HD.out HN.out hlt2)
          clear hlt2
          go_wp2
          go_roundw
          case rel => exact ⟨j + 1, A, B, by omega, rfl, rfl, by go_num, HB4.out, HS.out⟩
          case measure => simp [intOf]; omega
    · obtain rfl : j = 100 := by omega
      have HE1 := Lib.hid (show R.1 = A by rw [HRR.out, ← HD.out])
      have HE2 := Lib.hid (show R.2 = B by rw [HRR.out, ← HD.out])
      go_wp2
      go_ret2
      exact ⟨by rw [HE1.out, HE2.out] <;> rfl, HW.out⟩

end Go.Proofs.Ytbmpljclplddeab
