/- The specification's ThresholdObstacle. -/
import Derived.Test.YtbmpljclplddeabW2
import Derived.Test.YtbmpljclplddeabL1
import Derived.Test.YtbmpljclplddeabGl
import Derived.Test.YtbmpljclplddeabQ
import Derived.BigRegion
namespace Go.Proofs.Ytbmpljclplddeab
set_option linter.unusedVariables false
set_option linter.unusedSimpArgs false
open Go.RowKit

theorem OwnI.lit4 (w : World) (B : Nat) (q0 q1 q2 q3 : Nat) (hB : B ≤ w.heap.size) (h0 : q0 ≤ 2401) (h1 : q1 ≤ 2401) (h2 : q2 ≤ 2401) (h3 : q3 ≤ 2401) :
    OwnI B (w.alloc (.cells #[.int .i64 (q0 : Int), .int .i64 (q1 : Int), .int .i64 (q2 : Int), .int .i64 (q3 : Int)] 3)) (.slice (some ⟨w.heap.size, 0, none⟩) 4 4) [(q0 : Int), (q1 : Int), (q2 : Int), (q3 : Int)] := by
  have := World.ownsRow_lit w #[.int .i64 (q0 : Int), .int .i64 (q1 : Int), .int .i64 (q2 : Int), .int .i64 (q3 : Int)] 4 (e := 3) (base := B) hB (by simp [maxLen]) (size := 1) rfl
  exact ⟨fun x hx => by simp at hx; omega, by simpa [iv] using this⟩

set_option maxHeartbeats 8000000 in
set_option maxRecDepth 100000 in
theorem specThr (n : Int) (v : Value) (lg : List Int) (w : World) (h : Ints w v lg) :
    Calls Try.prog 34 #[.agg #[.int .i64 n, v]] w (GetsLB w.heap.size w (thrR n lg)) := by
  obtain ⟨a, cap, rfl, -, -⟩ := h.form
  have HI := Lib.hid h
  clear h
  have HA := argG' (T := 33) (n := n) HI.out
  obtain ⟨R, hR⟩ : ∃ R, R = thrR n lg := ⟨_, rfl⟩
  have HR := Lib.hid hR
  rw [← hR]
  clear hR
  by_cases hg : IsG n lg
  · have HG := Lib.hid hg
    obtain ⟨m, hm⟩ : ∃ m, m = lg.length := ⟨_, rfl⟩
    have hnm : n = (m : Int) := by have := hg.2.2.1; omega
    have hm1 : 1 ≤ m := by have := hg.1; omega
    have hm7 : m ≤ 7 := by have := hg.2.1; omega
    obtain ⟨m2, hm2⟩ : ∃ m2, m2 = m * m := ⟨_, rfl⟩
    obtain ⟨m3, hm3⟩ : ∃ m3, m3 = m * m * m := ⟨_, rfl⟩
    obtain ⟨m4, hm4⟩ : ∃ m4, m4 = m * m * m * m := ⟨_, rfl⟩
    have HF : Hid (R = firstS (fun c => if decide (thrObP n lg (four m c)) then some (four m c) else none) m4) := by
      show R = _
      rw [HR.out]
      unfold thrR pickS
      rw [if_pos hg, ← hm, ← hm4]
    have b2 : 1 ≤ m2 ∧ m2 ≤ 49 := by rw [hm2]; exact ⟨Nat.mul_le_mul hm1 hm1, Nat.mul_le_mul hm7 hm7⟩
    have b3 : 1 ≤ m3 ∧ m3 ≤ 343 := by rw [hm3, ← hm2]; exact ⟨Nat.mul_le_mul b2.1 hm1, Nat.mul_le_mul b2.2 hm7⟩
    have b4 : 1 ≤ m4 ∧ m4 ≤ 2401 := by rw [hm4, ← hm3]; exact ⟨Nat.mul_le_mul b3.1 hm1, Nat.mul_le_mul b3.2 hm7⟩
    have e2 : n * n = (m2 : Int) := by rw [hnm, hm2]; push_cast; rfl
    have e3 : (m2 : Int) * n = (m3 : Int) := by rw [hnm, hm3, hm2]; push_cast; rfl
    have e4 : (m3 : Int) * n = (m4 : Int) := by rw [hnm, hm4, hm3]; push_cast; rfl
    have HM := Lib.hid (show m2 = m * m ∧ m3 = m * m * m ∧ m = lg.length ∧ n = (m : Int) from ⟨hm2, hm3, hm, hnm⟩)
    have w2 : IntKind.i64.wrap (m2 : Int) = (m2 : Int) := IntWalk.i64_in _ (by omega)
    have w3 : IntKind.i64.wrap (m3 : Int) = (m3 : Int) := IntWalk.i64_in _ (by omega)
    have w4 : IntKind.i64.wrap (m4 : Int) = (m4 : Int) := IntWalk.i64_in _ (by omega)
    have n1 : 1 ≤ n := by omega
    have n7 : n ≤ 7 := by omega
    obtain ⟨b21, b22⟩ := b2
    obtain ⟨b31, b32⟩ := b3
    obtain ⟨b41, b42⟩ := b4
    clear hm2 hm3 hm4 hm hnm hg
    go_enter Try.func34, Try.ntmps34
    go_wp2
    go_loopw [4] (fun x wr => ∃ c : Nat, x = .int .i64 c ∧ c ≤ m4 ∧ Hid (∀ t, t < c → decide (thrObP n lg (four m t)) = false) ∧ Below (w.heap.size + 1) (w.alloc (.cells #[.int .i64 n, .slice a lg.length cap] 33)) wr) (fun x _ => m4 - (intOf x).toNat)
    case atStart => exact ⟨0, rfl, by omega, fun t ht => absurd ht (by omega), Below.refl _ _⟩
    case round =>
      obtain ⟨c, rfl, hc, HJ, hbel⟩ := hrel
      have HBL := Lib.hid hbel
      obtain ⟨c0, c1, cI, cB, hz⟩ := HA.out _ hbel
      have HI1 := Lib.hid cI
      clear hbel cI cB hz
      go_wp2_with fail
      refine (specIsG_any n _ lg _ HI1.out).mono ?_
      rintro e w1 ⟨r, rfl, hr, hb⟩
      have HB1 := Lib.hid (HBL.out.trans (hb.mono (by have := HBL.out.size; simpa using this)))
      obtain rfl : r = true := hr.2 HG.out
      clear hb hr c0 c1 HI1
      by_cases hlt : c < m4
      · have d0 : decide ((c : Int) < (m4 : Int)) = true := decide_eq_true (by omega)
        have d1 : decide (c < m4) = true := decide_eq_true hlt
        obtain ⟨q0, hq0⟩ : ∃ q0, q0 = c / m3 := ⟨_, rfl⟩
        obtain ⟨q1, hq1⟩ : ∃ q1, q1 = c / m2 := ⟨_, rfl⟩
        obtain ⟨q2, hq2⟩ : ∃ q2, q2 = c / m := ⟨_, rfl⟩
        obtain ⟨r1, hr1⟩ : ∃ r1, r1 = q1 % m := ⟨_, rfl⟩
        obtain ⟨r2, hr2⟩ : ∃ r2, r2 = q2 % m := ⟨_, rfl⟩
        obtain ⟨r3, hr3⟩ : ∃ r3, r3 = c % m := ⟨_, rfl⟩
        have z0 : q0 ≤ c := by rw [hq0]; exact Nat.div_le_self _ _
        have z1 : q1 ≤ c := by rw [hq1]; exact Nat.div_le_self _ _
        have z2 : q2 ≤ c := by rw [hq2]; exact Nat.div_le_self _ _
        have z3 : r1 ≤ q1 := by rw [hr1]; exact Nat.mod_le _ _
        have z4 : r2 ≤ q2 := by rw [hr2]; exact Nat.mod_le _ _
        have z5 : r3 ≤ c := by rw [hr3]; exact Nat.mod_le _ _
        have t0 : (c : Int).tdiv (m3 : Int) = (q0 : Int) := by rw [Int.tdiv_eq_ediv_of_nonneg (by omega), hq0]; rfl
        have t1 : (c : Int).tdiv (m2 : Int) = (q1 : Int) := by rw [Int.tdiv_eq_ediv_of_nonneg (by omega), hq1]; rfl
        have t2 : (c : Int).tdiv n = (q2 : Int) := by rw [Int.tdiv_eq_ediv_of_nonneg (by omega), hq2, HM.out.2.2.2]; rfl
        have t3 : (q1 : Int).tmod n = (r1 : Int) := by rw [Int.tmod_eq_emod_of_nonneg (by omega), hr1, HM.out.2.2.2]; rfl
        have t4 : (q2 : Int).tmod n = (r2 : Int) := by rw [Int.tmod_eq_emod_of_nonneg (by omega), hr2, HM.out.2.2.2]; rfl
        have t5 : (c : Int).tmod n = (r3 : Int) := by rw [Int.tmod_eq_emod_of_nonneg (by omega), hr3, HM.out.2.2.2]; rfl
        have x0 : IntKind.i64.wrap (q0 : Int) = (q0 : Int) := IntWalk.i64_in _ (by omega)
        have x1 : IntKind.i64.wrap (q1 : Int) = (q1 : Int) := IntWalk.i64_in _ (by omega)
        have x2 : IntKind.i64.wrap (q2 : Int) = (q2 : Int) := IntWalk.i64_in _ (by omega)
        have x3 : IntKind.i64.wrap (r1 : Int) = (r1 : Int) := IntWalk.i64_in _ (by omega)
        have x4 : IntKind.i64.wrap (r2 : Int) = (r2 : Int) := IntWalk.i64_in _ (by omega)
        have x5 : IntKind.i64.wrap (r3 : Int) = (r3 : Int) := IntWalk.i64_in _ (by omega)
        have y2 : ((m2 : Int) == 0) = false := by rw [beq_eq_false_iff_ne]; omega
        have y3 : ((m3 : Int) == 0) = false := by rw [beq_eq_false_iff_ne]; omega
        have y4 : (n == 0) = false := by rw [beq_eq_false_iff_ne]; omega
        have HX := Lib.hid (show four m c = [(q0 : Int), (r1 : Int), (r2 : Int), (r3 : Int)] by
          unfold four
          rw [hq0, hr1, hr2, hr3, hq1, hq2, HM.out.1, HM.out.2.1])
        clear hq0 hq1 hq2 hr1 hr2 hr3
        obtain ⟨c0, c1, cI, cB, hz⟩ := HA.out _ HB1.out
        have hzw : w.heap.size + 1 ≤ w1.heap.size := by have := HB1.out.size; simpa using this
        obtain ⟨W2, hW2⟩ : ∃ W2, W2 = (w1.alloc (.cells #[.int .i64 (q0 : Int), .int .i64 (r1 : Int), .int .i64 (r2 : Int), .int .i64 (r3 : Int)] 3)).drew := ⟨_, rfl⟩
        have HO2 := Lib.hid (show OwnI w.heap.size W2 (.slice (some ⟨w1.heap.size, 0, none⟩) 4 4) (four m c) by
          rw [hW2, HX.out]
          exact (OwnI.lit4 w1 w.heap.size q0 r1 r2 r3 (by omega) (by omega) (by omega) (by omega) (by omega)).on (Below.refl _ _).drew)
        have HB2 := Lib.hid (show Below (w.heap.size + 1) (w.alloc (.cells #[.int .i64 n, .slice a lg.length cap] 33)) W2 by rw [hW2]; exact (HB1.out.alloc hzw _).drew)
        clear cI cB hz
        go_wp2
        go_region
        rw [← hW2]
        clear hW2 t0 t1 t2 t3 t4 t5 x0 x1 x2 x3 x4 x5 y2 y3 y4 c0 c1
        obtain ⟨c0, c1, cI, cB, hz⟩ := HA.out _ HB2.out
        have HI2 := Lib.hid cI
        have HCB := Lib.hid cB
        clear cI cB hz
        go_wp2_with fail
        refine (specIsThresholdObstacle n _ _ lg (four m c) _ HI2.out HO2.out.ints (by unfold four; simp)).mono ?_
        rintro e w3 ⟨r, rfl, hr, hb⟩
        have HR3 := Lib.hid hr
        have HB3 := Lib.hid (HB2.out.trans (hb.mono (by have := HB2.out.size; simpa using this)))
        have HCB3 := Lib.hid (HCB.out.trans (hb.mono HCB.out.size))
        have HO3 := Lib.hid (HO2.out.on hb)
        clear hr hb c0 c1
        cases r with
        | true =>
          have HT := Lib.hid (show decide (thrObP n lg (four m c)) = true from decide_eq_true (HR3.out.1 rfl))
          have HN := Lib.hid (show R = some (four m c) by
            rw [HF.out]
            exact firstS_hit hlt (fun t ht => by rw [HJ.out t ht]; rfl) (by rw [HT.out]; rfl))
          go_wp2
          go_ret2
          exact ⟨_, by rw [HN.out]; rfl, by rw [HN.out]; exact HO3.out, HCB3.out⟩
        | false =>
          have HT : Hid (∀ t, t < c + 1 → decide (thrObP n lg (four m t)) = false) := fun t ht => by
            rcases Nat.lt_or_ge t c with h | h
            · exact HJ.out t h
            · obtain rfl : t = c := by omega
              exact decide_eq_false fun hp => absurd (HR3.out.2 hp) (by decide)
          obtain ⟨c0, c1, -, -, -⟩ := HA.out _ HB3.out
          go_wp2
          go_roundw
          case rel => exact ⟨c + 1, by go_num, by omega, HT.out, HB3.out⟩
          case measure => simp [intOf]; omega
      · obtain rfl : c = m4 := by omega
        have d0 : decide ((c : Int) < (c : Int)) = false := decide_eq_false (by omega)
        have d1 : decide (c < c) = false := decide_eq_false (by omega)
        have HN := Lib.hid (show R = none by
          rw [HF.out]
          exact firstS_none.2 fun t ht => by rw [HJ.out t ht]; rfl)
        obtain ⟨c0, c1, cI, cB, hz⟩ := HA.out _ HB1.out
        clear cI cB hz
        obtain ⟨-, -, -, cB, -⟩ := HA.out _ HB1.out
        have hzw : w.heap.size ≤ w1.heap.size := cB.size
        have HCB := Lib.hid cB
        have HE := Lib.hid (OwnI.lit0 w1 w.heap.size hzw)
        clear cB
        go_wp2
        go_ret2
        exact ⟨_, by rw [HN.out]; rfl, by rw [HN.out]; exact HE.out, HCB.out.alloc hzw _⟩
  · have HN := Lib.hid (show R = none by rw [HR.out]; unfold thrR; rw [if_neg hg])
    have HG := Lib.hid hg
    clear hg
    go_enter Try.func34, Try.ntmps34
    go_wp2
    go_loopw [4] (fun x wr => x = .int .i64 0 ∧ Below (w.heap.size + 1) (w.alloc (.cells #[.int .i64 n, .slice a lg.length cap] 33)) wr) (fun _ _ => 0)
    case atStart => exact ⟨rfl, Below.refl _ _⟩
    case round =>
      obtain ⟨rfl, hbel⟩ := hrel
      have HBL := Lib.hid hbel
      obtain ⟨c0, c1, cI, cB, hz⟩ := HA.out _ hbel
      have HI1 := Lib.hid cI
      clear hbel cI cB hz
      go_wp2_with fail
      refine (specIsG_any n _ lg _ HI1.out).mono ?_
      rintro e w1 ⟨r, rfl, hr, hb⟩
      have HB1 := Lib.hid (HBL.out.trans (hb.mono (by have := HBL.out.size; simpa using this)))
      obtain rfl : r = false := by
        cases r with
        | false => rfl
        | true => exact absurd (hr.1 rfl) HG.out
      clear hb hr c0 c1
      obtain ⟨-, -, -, cB, -⟩ := HA.out _ HB1.out
      have hzw : w.heap.size ≤ w1.heap.size := cB.size
      have HCB := Lib.hid cB
      have HE := Lib.hid (OwnI.lit0 w1 w.heap.size hzw)
      clear cB
      go_wp2
      go_ret2
      exact ⟨_, by rw [HN.out]; rfl, by rw [HN.out]; exact HE.out, HCB.out.alloc hzw _⟩

end Go.Proofs.Ytbmpljclplddeab
