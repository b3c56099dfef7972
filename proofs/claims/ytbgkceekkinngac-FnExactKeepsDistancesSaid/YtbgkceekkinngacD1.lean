/- Walks over DistanceOf. -/
import Derived.Test.YtbgkceekkinngacV5
import Derived.Test.YtbgkceekkinngacV7
import Derived.Test.YtbgkceekkinngacG5
namespace Go.Proofs.Ytbgkceekkinngac
set_option linter.unusedVariables false
set_option linter.unusedSimpArgs false
open Go.RowKit

/-- How many steps around until w is met: f steps at most, from the d-th on. -/
def distL (R : Nat → Nat) (w : Nat) : Nat → Nat → Nat → Int
  | 0, _, _ => -1
  | f + 1, d, X => if X.testBit w = true then d else distL R w f (d + 1) (aroundN R X)

def DistOk (n : Int) (l : List Int) (x y : Int) : Prop := IsG n l ∧ (0 ≤ x ∧ x < n) ∧ (0 ≤ y ∧ y < n)

instance (n : Int) (l : List Int) (x y : Int) : Decidable (DistOk n l x y) := by unfold DistOk; infer_instance

def distR (n : Int) (l : List Int) (x y : Int) : Int := if DistOk n l x y then distL (rowN l) y.toNat l.length 0 (2 ^ x.toNat) else -1

theorem distL_yes (R : Nat → Nat) (w f d X : Nat) (hf : 0 < f) (h : bitAt (X : Int) w = 1) : distL R w f d X = d := by
  obtain ⟨g, rfl⟩ : ∃ g, f = g + 1 := ⟨f - 1, by omega⟩
  show (if X.testBit w = true then (d : Int) else _) = d
  rw [if_pos ((bitAt_nat X w).1 h)]

theorem distL_no (R : Nat → Nat) (w f d X : Nat) (hf : 0 < f) (h : bitAt (X : Int) w = 0) : distL R w f d X = distL R w (f - 1) (d + 1) (aroundN R X) := by
  obtain ⟨g, rfl⟩ : ∃ g, f = g + 1 := ⟨f - 1, by omega⟩
  show (if X.testBit w = true then (d : Int) else _) = _
  rw [if_neg fun h' => by rw [(bitAt_nat X w).2 h'] at h; exact absurd h (by decide)]
  rfl

set_option maxHeartbeats 2000000 in
set_option maxRecDepth 100000 in
theorem specDist_yes (n : Int) (v : Value) (l : List Int) (x y : Int) (w : World) (h : Ints w v l) (hok : DistOk n l x y) :
    Calls Try.prog 58 #[.agg #[.int .i64 n, v], .int .i64 x, .int .i64 y] w (SaysN (distR n l x y) w) := by
  obtain ⟨a, cap, rfl, -, -⟩ := h.form
  have HA := argG' (T := 27) (n := n) h
  have HI := Lib.hid h
  obtain ⟨R, hR⟩ : ∃ R, R = distR n l x y := ⟨_, rfl⟩
  have hR2 : R = distL (rowN l) y.toNat l.length 0 (2 ^ x.toNat) := by rw [hR]; unfold distR; rw [if_pos hok]
  have HRR := Lib.hid hR.symm
  obtain ⟨hg, ⟨x0, x1⟩, y0, y1⟩ := hok
  obtain ⟨X, rfl⟩ := Int.eq_ofNat_of_zero_le x0
  obtain ⟨Y, rfl⟩ := Int.eq_ofNat_of_zero_le y0
  rw [Int.toNat_natCast, Int.toNat_natCast] at hR2
  have HG := Lib.hid hg
  have hn7 := hg.2.1
  have hnl := hg.2.2.1
  have hl7 : l.length ≤ 7 := by omega
  have hle : (l.length : Int) ≤ n := by omega
  have hge : n ≤ (l.length : Int) := by omega
  have HR := Lib.hid hR2
  obtain ⟨-, -, -, s6, s7⟩ := shl_one' X (by omega)
  obtain ⟨K, hK⟩ : ∃ K, K = 2 ^ X := ⟨_, rfl⟩
  have eK : (2 : Int) ^ X = (K : Int) := by rw [hK]; push_cast; rfl
  rw [← hK] at HR
  have HK := Lib.hid (show K < 2 ^ l.length by rw [hK]; exact Nat.pow_lt_pow_right (by omega) (by omega))
  have hK1 : 1 ≤ K := by rw [hK]; exact Nat.pow_pos (by decide)
  have hK2 : K ≤ 128 := by rw [eK] at s6; omega
  have g1 : IntKind.i64.wrap (1 * (K : Int)) = K := IntWalk.i64_in _ (by omega) |>.trans (by omega)
  have g2 : IntKind.i64.wrap (K : Int) = K := IntWalk.i64_in _ (by omega)
  have hdx : decide ((X : Int) < 0) = false := decide_eq_false (by omega)
  have hdy : decide ((Y : Int) < 0) = false := decide_eq_false (by omega)
  have hgx : decide (n ≤ (X : Int)) = false := decide_eq_false (by omega)
  have hgy : decide (n ≤ (Y : Int)) = false := decide_eq_false (by omega)
  clear h hg hR hR2 hK s6 s7
  go_enter Try.func58, Try.ntmps58
  go_wp2_with fail
  refine (specIsG_any n _ l _ (HI.out.alloc _)).mono ?_
  rintro e w1 ⟨r, rfl, hr, hb⟩
  obtain rfl : r = true := hr.2 HG.out
  have HB := Lib.hid (hb.mono (B' := w.heap.size + 1) (by simp))
  clear hb hr
  obtain ⟨c0, c1, -, -, hz⟩ := HA.out _ HB.out
  go_wp2
  clear c0 c1 hz
  clear eK g1 g2
  go_loopw [7, 8] (fun o i wr => ∃ (j A : Nat), j ≤ l.length ∧ i = .int .i64 j ∧ o = .int .i64 A ∧ Hid (A < 2 ^ l.length ∧ R = distL (rowN l) Y (l.length - j) j A) ∧ Below (w.heap.size + 1) (w.alloc (.cells #[.int .i64 n, .slice a l.length cap] 27)) wr) (fun _ i _ => l.length - (intOf i).toNat)
  case atStart => exact ⟨0, K, by omega, rfl, rfl, ⟨HK.out, HR.out⟩, HB.out⟩
  case round =>
    obtain ⟨j, A, hj, rfl, rfl, HF, hbel⟩ := hrel
    obtain ⟨c0, c1, cI, cB, hz⟩ := HA.out _ hbel
    have HBL := Lib.hid hbel
    have HCB := Lib.hid cB
    have HCI := Lib.hid cI
    clear hbel cB cI
    by_cases hlt : j < l.length
    · have hjn : (j : Int) < n := by omega
      obtain ⟨t, ht⟩ : ∃ t, t = bitAt (A : Int) Y := ⟨_, rfl⟩
      have e1 : bits .and .i64 ((A : Int) / 2 ^ Y) 1 = t := by rw [ht]; exact and_one_bit A Y
      have z1 : t = 0 ∨ t = 1 := by rw [ht]; exact bitAt_two _ _
      have HT := Lib.hid ht
      clear ht
      rcases z1 with rfl | rfl
      · have HN := Lib.hid (distL_no (rowN l) Y (l.length - j) j A (by omega) HT.out.symm)
        have hA2 := HF.out.1
        have HRA := Lib.hid (aroundR_nat HG.out hA2)
        have HAL := Lib.hid (around_lt HG.out hA2)
        clear hA2
        go_wp2_with fail
        refine (specAround n _ l A _ HCI.out).mono ?_
        rintro e w2 ⟨rfl, hb⟩
        rw [HRA.out]
        have HBL2 := Lib.hid (HBL.out.trans (hb.mono hz))
        clear hb c0 c1 hz
        obtain ⟨c0, c1, -, -, hz⟩ := HA.out _ HBL2.out
        go_wp2
        go_roundw
        case rel => exact ⟨j + 1, aroundN (rowN l) A, by omega, by go_num, rfl, ⟨HAL.out, by rw [HF.out.2, HN.out, Nat.sub_sub]⟩, HBL2.out⟩
        case measure => simp [intOf]; omega
      · have HN := Lib.hid (show distR n l (X : Int) (Y : Int) = (j : Int) by rw [HRR.out, HF.out.2]; exact distL_yes (rowN l) Y (l.length - j) j A (by omega) HT.out.symm)
        go_wp2
        go_ret
        exact ⟨by rw [HN.out]; rfl, HCB.out⟩
    · obtain rfl : j = l.length := by omega
      have HN := Lib.hid (show R = -1 by rw [HF.out.2, Nat.sub_self]; rfl)
      go_wp2
      go_ret
      exact ⟨by rw [HRR.out, HN.out]; rfl, HCB.out⟩

set_option maxHeartbeats 2000000 in
set_option maxRecDepth 100000 in
theorem specDist_no (n : Int) (v : Value) (l : List Int) (x y : Int) (w : World) (h : Ints w v l) (hno : ¬ DistOk n l x y) :
    Calls Try.prog 58 #[.agg #[.int .i64 n, v], .int .i64 x, .int .i64 y] w (SaysN (-1) w) := by
  obtain ⟨a, cap, rfl, -, -⟩ := h.form
  have HA := argG' (T := 27) (n := n) h
  have HI := Lib.hid h
  have HNO := Lib.hid hno
  clear h hno
  go_enter Try.func58, Try.ntmps58
  go_wp2_with fail
  refine (specIsG_any n _ l _ (HI.out.alloc _)).mono ?_
  rintro e w1 ⟨r, rfl, hr, hb⟩
  have HB := Lib.hid (hb.mono (B' := w.heap.size + 1) (by simp))
  clear hb
  obtain ⟨c0, c1, cI, cB, hz⟩ := HA.out _ HB.out
  have HCB := Lib.hid cB
  have HI1 := Lib.hid cI
  clear cB cI
  cases r with
  | false =>
    clear hr
    go_wp2
    go_ret
    exact ⟨rfl, HCB.out⟩
  | true =>
    have HG := Lib.hid (hr.1 rfl)
    clear hr
    by_cases hx : x < 0
    · have d0 : decide (x < 0) = true := decide_eq_true hx
      go_wp2
      go_ret
      exact ⟨rfl, HCB.out⟩
    · have d0 : decide (x < 0) = false := decide_eq_false hx
      by_cases hy : y < 0
      · have d1 : decide (y < 0) = true := decide_eq_true hy
        go_wp2
        go_ret
        exact ⟨rfl, HCB.out⟩
      · have d1 : decide (y < 0) = false := decide_eq_false hy
        by_cases hx2 : n ≤ x
        · have d2 : decide (n ≤ x) = true := decide_eq_true hx2
          go_wp2
          go_ret
          exact ⟨rfl, HCB.out⟩
        · have d2 : decide (n ≤ x) = false := decide_eq_false hx2
          have hy2 : n ≤ y := by
            rcases Int.lt_or_le y n with h | h
            · exact absurd ⟨HG.out, ⟨by omega, by omega⟩, by omega, h⟩ HNO.out
            · exact h
          have d3 : decide (n ≤ y) = true := decide_eq_true hy2
          go_wp2
          go_ret
          exact ⟨rfl, HCB.out⟩

theorem specDist (n : Int) (v : Value) (l : List Int) (x y : Int) (w : World) (h : Ints w v l) :
    Calls Try.prog 58 #[.agg #[.int .i64 n, v], .int .i64 x, .int .i64 y] w (SaysN (distR n l x y) w) := by
  by_cases hok : DistOk n l x y
  · exact specDist_yes n v l x y w h hok
  · rw [show distR n l x y = -1 by unfold distR; rw [if_neg hok]]
    exact specDist_no n v l x y w h hok

set_option maxHeartbeats 2000000 in
set_option maxRecDepth 100000 in
theorem implDist_yes (n : Int) (v : Value) (l : List Int) (x y : Int) (w : World) (h : Ints w v l) (hok : DistOk n l x y) :
    Calls Try.prog 62 #[.agg #[.int .i64 n, v], .int .i64 x, .int .i64 y] w (SaysN (distR n l x y) w) := by
  obtain ⟨a, cap, rfl, -, -⟩ := h.form
  have HA := argG' (T := 27) (n := n) h
  have HI := Lib.hid h
  obtain ⟨R, hR⟩ : ∃ R, R = distR n l x y := ⟨_, rfl⟩
  have hR2 : R = distL (rowN l) y.toNat l.length 0 (2 ^ x.toNat) := by rw [hR]; unfold distR; rw [if_pos hok]
  have HRR := Lib.hid hR.symm
  obtain ⟨hg, ⟨x0, x1⟩, y0, y1⟩ := hok
  obtain ⟨X, rfl⟩ := Int.eq_ofNat_of_zero_le x0
  obtain ⟨Y, rfl⟩ := Int.eq_ofNat_of_zero_le y0
  rw [Int.toNat_natCast, Int.toNat_natCast] at hR2
  have HG := Lib.hid hg
  have hn7 := hg.2.1
  have hnl := hg.2.2.1
  have hl7 : l.length ≤ 7 := by omega
  have hle : (l.length : Int) ≤ n := by omega
  have hge : n ≤ (l.length : Int) := by omega
  have HR := Lib.hid hR2
  obtain ⟨-, -, -, s6, s7⟩ := shl_one' X (by omega)
  obtain ⟨K, hK⟩ : ∃ K, K = 2 ^ X := ⟨_, rfl⟩
  have eK : (2 : Int) ^ X = (K : Int) := by rw [hK]; push_cast; rfl
  rw [← hK] at HR
  have HK := Lib.hid (show K < 2 ^ l.length by rw [hK]; exact Nat.pow_lt_pow_right (by omega) (by omega))
  have hK1 : 1 ≤ K := by rw [hK]; exact Nat.pow_pos (by decide)
  have hK2 : K ≤ 128 := by rw [eK] at s6; omega
  have g1 : IntKind.i64.wrap (1 * (K : Int)) = K := IntWalk.i64_in _ (by omega) |>.trans (by omega)
  have g2 : IntKind.i64.wrap (K : Int) = K := IntWalk.i64_in _ (by omega)
  have hdx : decide ((X : Int) < 0) = false := decide_eq_false (by omega)
  have hdy : decide ((Y : Int) < 0) = false := decide_eq_false (by omega)
  have hgx : decide (n ≤ (X : Int)) = false := decide_eq_false (by omega)
  have hgy : decide (n ≤ (Y : Int)) = false := decide_eq_false (by omega)
  clear h hg hR hR2 hK s6 s7
  go_enter Try.func62, Try.ntmps62
  go_wp2_with fail
  refine (implIsG_any n _ l _ (HI.out.alloc _)).mono ?_
  rintro e w1 ⟨r, rfl, hr, hb⟩
  obtain rfl : r = true := hr.2 HG.out
  have HB1 := Lib.hid (hb.mono (B' := w.heap.size + 1) (by simp))
  clear hb hr
  obtain ⟨c0, c1, cI, -, hz⟩ := HA.out _ HB1.out
  have HI1 := Lib.hid cI
  clear cI
  go_wp2_with fail
  refine (hasVertex_yes n _ l X _ HI1.out (by omega) x1).mono ?_
  rintro e w2 ⟨rfl, hb⟩
  have HB2 := Lib.hid (HB1.out.trans (hb.mono hz))
  clear hb c0 c1 hz
  obtain ⟨c0, c1, cI, -, hz⟩ := HA.out _ HB2.out
  have HI2 := Lib.hid cI
  clear cI
  go_wp2_with fail
  refine (hasVertex_yes n _ l Y _ HI2.out (by omega) y1).mono ?_
  rintro e w3 ⟨rfl, hb⟩
  have HB := Lib.hid (HB2.out.trans (hb.mono hz))
  clear hb c0 c1 hz
  obtain ⟨c0, c1, -, -, hz⟩ := HA.out _ HB.out
  go_wp2
  clear c0 c1 hz
  clear eK g1 g2
  go_loopw [7, 28] (fun o i wr => ∃ (j A : Nat), j ≤ l.length ∧ i = .int .i64 j ∧ o = .int .i64 A ∧ Hid (A < 2 ^ l.length ∧ R = distL (rowN l) Y (l.length - j) j A) ∧ Below (w.heap.size + 1) (w.alloc (.cells #[.int .i64 n, .slice a l.length cap] 27)) wr) (fun _ i _ => l.length - (intOf i).toNat)
  case atStart => exact ⟨0, K, by omega, rfl, rfl, ⟨HK.out, HR.out⟩, HB.out⟩
  case round =>
    obtain ⟨j, A, hj, rfl, rfl, HF, hbel⟩ := hrel
    obtain ⟨c0, c1, cI, cB, hz⟩ := HA.out _ hbel
    have HBL := Lib.hid hbel
    have HCB := Lib.hid cB
    have HCI := Lib.hid cI
    clear hbel cB cI
    by_cases hlt : j < l.length
    · have hjn : (j : Int) < n := by omega
      obtain ⟨t, ht⟩ : ∃ t, t = bitAt (A : Int) Y := ⟨_, rfl⟩
      have e1 : bits .and .i64 ((A : Int) / 2 ^ Y) 1 = t := by rw [ht]; exact and_one_bit A Y
      have z1 : t = 0 ∨ t = 1 := by rw [ht]; exact bitAt_two _ _
      have HT := Lib.hid ht
      clear ht
      rcases z1 with rfl | rfl
      · have HN := Lib.hid (distL_no (rowN l) Y (l.length - j) j A (by omega) HT.out.symm)
        have hA2 := HF.out.1
        have HRA := Lib.hid (aroundR_nat HG.out hA2)
        have HAL := Lib.hid (around_lt HG.out hA2)
        clear hA2
        go_wp2_with fail
        refine (implAround n _ l A _ HCI.out).mono ?_
        rintro e w2 ⟨rfl, hb⟩
        rw [HRA.out]
        have HBL2 := Lib.hid (HBL.out.trans (hb.mono hz))
        clear hb c0 c1 hz
        obtain ⟨c0, c1, -, -, hz⟩ := HA.out _ HBL2.out
        go_wp2
        go_roundw
        case rel => exact ⟨j + 1, aroundN (rowN l) A, by omega, by go_num, rfl, ⟨HAL.out, by rw [HF.out.2, HN.out, Nat.sub_sub]⟩, HBL2.out⟩
        case measure => simp [intOf]; omega
      · have HN := Lib.hid (show distR n l (X : Int) (Y : Int) = (j : Int) by rw [HRR.out, HF.out.2]; exact distL_yes (rowN l) Y (l.length - j) j A (by omega) HT.out.symm)
        go_wp2
        go_ret
        exact ⟨by rw [HN.out]; rfl, HCB.out⟩
    · obtain rfl : j = l.length := by omega
      have HN := Lib.hid (show R = -1 by rw [HF.out.2, Nat.sub_self]; rfl)
      go_wp2
      go_ret
      exact ⟨by rw [HRR.out, HN.out]; rfl, HCB.out⟩

set_option maxHeartbeats 2000000 in
set_option maxRecDepth 100000 in
theorem implDist_no (n : Int) (v : Value) (l : List Int) (x y : Int) (w : World) (h : Ints w v l) (hno : ¬ DistOk n l x y) :
    Calls Try.prog 62 #[.agg #[.int .i64 n, v], .int .i64 x, .int .i64 y] w (SaysN (-1) w) := by
  obtain ⟨a, cap, rfl, -, -⟩ := h.form
  have HA := argG' (T := 27) (n := n) h
  have HI := Lib.hid h
  have HNO := Lib.hid hno
  clear h hno
  go_enter Try.func62, Try.ntmps62
  go_wp2_with fail
  refine (implIsG_any n _ l _ (HI.out.alloc _)).mono ?_
  rintro e w1 ⟨r, rfl, hr, hb⟩
  have HB := Lib.hid (hb.mono (B' := w.heap.size + 1) (by simp))
  clear hb
  obtain ⟨c0, c1, cI, cB, hz⟩ := HA.out _ HB.out
  have HCB := Lib.hid cB
  have HI1 := Lib.hid cI
  clear cB cI
  cases r with
  | false =>
    clear hr
    go_wp2
    go_ret
    exact ⟨rfl, HCB.out⟩
  | true =>
    have HG := Lib.hid (hr.1 rfl)
    clear hr
    by_cases hx : 0 ≤ x ∧ x < n
    · obtain ⟨hx0, hx1⟩ := hx
      have hy : ¬ (0 ≤ y ∧ y < n) := fun hy => HNO.out ⟨HG.out, ⟨hx0, hx1⟩, hy⟩
      have HY := Lib.hid hy
      clear hy
      go_wp2_with fail
      refine (hasVertex_yes n _ l x _ HI1.out hx0 hx1).mono ?_
      rintro e w2 ⟨rfl, hb⟩
      have HB2 := Lib.hid (HB.out.trans (hb.mono hz))
      clear hb c0 c1 hz
      obtain ⟨c0, c1, cI, -, hz⟩ := HA.out _ HB2.out
      have HI2 := Lib.hid cI
      clear cI
      go_wp2_with fail
      refine (hasVertex_no n _ l y _ HI2.out HY.out).mono ?_
      rintro e w3 ⟨rfl, hb⟩
      have HB3 := Lib.hid (HB2.out.trans (hb.mono hz))
      clear hb c0 c1 hz
      have HCB3 := Lib.hid (HA.out _ HB3.out).2.2.2.1
      go_wp2
      go_ret
      exact ⟨rfl, HCB3.out⟩
    · have HX := Lib.hid hx
      clear hx
      go_wp2_with fail
      refine (hasVertex_no n _ l x _ HI1.out HX.out).mono ?_
      rintro e w2 ⟨rfl, hb⟩
      have HB2 := Lib.hid (HB.out.trans (hb.mono hz))
      clear hb c0 c1 hz
      have HCB2 := Lib.hid (HA.out _ HB2.out).2.2.2.1
      go_wp2
      go_ret
      exact ⟨rfl, HCB2.out⟩

theorem implDist (n : Int) (v : Value) (l : List Int) (x y : Int) (w : World) (h : Ints w v l) :
    Calls Try.prog 62 #[.agg #[.int .i64 n, v], .int .i64 x, .int .i64 y] w (SaysN (distR n l x y) w) := by
  by_cases hok : DistOk n l x y
  · exact implDist_yes n v l x y w h hok
  · rw [show distR n l x y = -1 by unfold distR; rw [if_neg hok]]
    exact implDist_no n v l x y w h hok

end Go.Proofs.Ytbgkceekkinngac
