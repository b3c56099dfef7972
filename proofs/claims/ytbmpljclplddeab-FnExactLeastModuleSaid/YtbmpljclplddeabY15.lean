/- LeastModule. -/
import Derived.Test.YtbmpljclplddeabLm
import Derived.Test.YtbmpljclplddeabM9
import Derived.Test.YtbmpljclplddeabBx
namespace Go.Proofs.Ytbmpljclplddeab
set_option linter.unusedVariables false
set_option linter.unusedSimpArgs false
open Go.RowKit

theorem andNot_subL : ∀ (a b : Fin 128), bits .andNot .i64 ((a.val : Nat) : Int) ((b.val : Nat) : Int) = 0 ↔ a.val &&& b.val = a.val := by decide +kernel

theorem popU_nat (Y : Nat) (h : Y < 128) : popU (Y : Int) = ((popN Y : Nat) : Int) := by
  unfold popU
  rw [if_pos (by omega), listU_nat, List.length_map]
  rfl

set_option maxRecDepth 100000 in
theorem enters_least : Enters 99 := fun args W => by rfl

set_option maxHeartbeats 1000000 in
set_option maxRecDepth 100000 in
theorem rule_least (q q' : Nat) (n : Int) (v : Value) (lg : List Int) (X : Nat) (W0 : World) (hb : BoxG q n v W0) (hs : W0.cell? ⟨q', 0, none⟩ = some (.int .i64 X)) (hq' : q' < W0.heap.size) (hI : Ints W0 v lg) (hX : X < 128) (hN : lg.length ≤ 7) :
    Rule1 99 #[.pointer (some ⟨q', 0, none⟩), .pointer (some ⟨q, 0, none⟩)] (2 ^ lg.length) (leastB n lg X) W0 := by
  intro W y hy hbel
  have hy7 : y < 128 := Nat.lt_of_lt_of_le hy (two_le _ hN)
  obtain ⟨c0, c1, cz⟩ := hb.keep (below_grown hbel) (by simp)
  have c2 : W.cell? ⟨q', 0, none⟩ = some (.int .i64 X) := (hbel.cell (p := ⟨q', 0, none⟩) hq').trans hs
  obtain ⟨a, cap, rfl, -, -⟩ := hI.form
  have HI := Lib.hid (hI.on hbel)
  obtain ⟨t, ht⟩ : ∃ t, t = bits .andNot .i64 (X : Int) (y : Int) := ⟨_, rfl⟩
  have e1 : bits .andNot .i64 (X : Int) (y : Int) = t := ht.symm
  have HT := Lib.hid (show t = 0 ↔ X &&& y = X by rw [ht]; exact andNot_subL ⟨X, hX⟩ ⟨y, hy7⟩)
  obtain ⟨b, hbb⟩ : ∃ b, b = leastB n lg X y := ⟨_, rfl⟩
  have HB := Lib.hid (show b = (decide (X &&& y = X) && decide (ModS n lg (y : Int))) by rw [hbb]; rfl)
  rw [← hbb]
  clear hb hI hbel hs hq' hy hy7 ht hbb
  show Calls Try.prog 99 #[.int .i64 y, .pointer (some ⟨q', 0, none⟩), .pointer (some ⟨q, 0, none⟩)] W _
  by_cases ht0 : t = 0
  · have d0 : (t == 0) = true := by simp [ht0]
    have HT0 := Lib.hid (HT.out.1 ht0)
    clear ht0
    go_enter Try.func99, Try.ntmps99
    go_wp2_with fail
    refine ((implMod n _ lg y _ HI.out).mono fun _ _ h => h.dec).mono ?_
    rintro e w1 ⟨rfl, hb⟩
    have HBL := Lib.hid hb
    obtain ⟨c, hc⟩ : ∃ c, c = decide (ModS n lg (y : Int)) := ⟨_, rfl⟩
    have HE := Lib.hid (show b = c by rw [HB.out, hc, decide_eq_true HT0.out, Bool.true_and])
    rw [← hc]
    clear hb hc
    go_wp2
    go_ret
    exact ⟨by rw [HE.out] <;> rfl, HBL.out⟩
  · have d0 : (t == 0) = false := by simp [ht0]
    have HE := Lib.hid (show b = false by rw [HB.out, decide_eq_false (fun h => ht0 (HT.out.2 h)), Bool.false_and])
    clear ht0
    go_enter Try.func99, Try.ntmps99
    go_wp2
    go_ret
    exact ⟨by rw [HE.out] <;> rfl, Below.refl _ _⟩

set_option maxHeartbeats 2000000 in
set_option maxRecDepth 100000 in
theorem implLeast (n : Int) (v : Value) (lg : List Int) (x : Int) (w : World) (h : Ints w v lg) :
    Calls Try.prog 49 #[.agg #[.int .i64 n, v], .int .i64 x] w (fun e w' => e = .returned (.int .i64 (leastR n lg x)) ∧ Below w.heap.size w w') := by
  obtain ⟨a, cap, rfl, -, -⟩ := h.form
  have HI := Lib.hid h
  have hmf : ∀ (fn : Fn) (first cap : Array Value) (w : World), (Instr.makeFunc fn first cap).run Try.prog w = .ok (.func fn first cap) w := fun _ _ _ _ => rfl
  have F0 := Lib.hid (show Below w.heap.size w ((w.alloc (.cells #[.int .i64 n, .slice a lg.length cap] 33)).alloc (.cells #[.int .i64 x] 3)) from ((Below.refl _ w).alloc (Nat.le_refl _) _).alloc (by simp) _)
  have A0 := Lib.hid (show Box w.heap.size [.int .i64 n, .slice a lg.length cap] ((w.alloc (.cells #[.int .i64 n, .slice a lg.length cap] 33)).alloc (.cells #[.int .i64 x] 3)) from (Box.new w _ _).keep (grown_alloc _ _ none) (by simp))
  have C0 := Lib.hid (show Box (w.heap.size + 1) [.int .i64 x] ((w.alloc (.cells #[.int .i64 n, .slice a lg.length cap] 33)).alloc (.cells #[.int .i64 x] 3)) by have h := Box.new (w.alloc (.cells #[.int .i64 n, .slice a lg.length cap] 33)) 3 [.int .i64 x]; simpa using h)
  obtain ⟨R, hR⟩ : ∃ R, R = leastR n lg x := ⟨_, rfl⟩
  have HRR := Lib.hid hR
  rw [← hR]
  clear hR h
  go_enter Try.func49, Try.ntmps49
  go_wp2_with fail
  refine (implIsSet n _ lg x _ (HI.out.on F0.out)).mono ?_
  rintro e w1 ⟨r, rfl, hr, hb⟩
  have HR := Lib.hid hr
  have F1 := Lib.hid (F0.out.trans (hb.mono F0.out.size))
  have A1 := Lib.hid (A0.out.on hb)
  have C1 := Lib.hid (C0.out.on hb)
  have x0 : w1.cell? ⟨w.heap.size, 0, none⟩ = some (.int .i64 n) := A1.out.1 0 _ rfl
  have x1 : w1.cell? ⟨w.heap.size, 1, none⟩ = some (.slice a lg.length cap) := A1.out.1 1 _ rfl
  have y0 : w1.cell? ⟨w.heap.size + 1, 0, none⟩ = some (.int .i64 x) := C1.out.1 0 _ rfl
  clear hr hb A0 C0 F0
  cases r with
  | false =>
    have HN := Lib.hid (show R = 0 by rw [HRR.out]; unfold leastR; rw [if_neg (fun h => absurd (HR.out.2 h.1) (by decide))])
    go_wp2
    go_ret
    exact ⟨by rw [HN.out] <;> rfl, F1.out⟩
  | true =>
    have HS := Lib.hid (HR.out.1 (by first | rfl | trivial))
    by_cases h0 : x = 0
    · have d0 : (x == 0) = true := by simp [h0]
      have HN := Lib.hid (show R = 0 by rw [HRR.out]; unfold leastR; rw [if_neg (fun h => h.2 h0)])
      clear h0
      go_wp2
      go_ret
      exact ⟨by rw [HN.out] <;> rfl, F1.out⟩
    · have d0 : (x == 0) = false := by simp [h0]
      obtain ⟨hx1, hx2, h7⟩ := HS.out.nat
      obtain ⟨X, hX⟩ : ∃ X, X = x.toNat := ⟨_, rfl⟩
      rw [← hX] at hx1 hx2
      have hX0 : 0 < X := by omega
      have hX7 : X < 128 := Nat.lt_of_lt_of_le hx2 (two_le _ h7)
      have HG := Lib.hid HS.out.1
      have HF := Lib.hid (least_first HG.out hx2 hX0)
      have HN := Lib.hid (show R = ((leastL (rowN lg) lg.length X lg.length : Nat) : Int) by rw [HRR.out]; unfold leastR; rw [if_pos ⟨HS.out, h0⟩, ← hX])
      subst hx1
      clear hX hx2 h0 HRR
      obtain ⟨w2, hw2⟩ : ∃ w2, w2 = w1.alloc (.cells #[.int .i64 n, .slice a lg.length cap, .func (.func 99) #[] #[.pointer (some ⟨w.heap.size + 1, 0, none⟩), .pointer (some ⟨w.heap.size, 0, none⟩)]] 102) := ⟨_, rfl⟩
      have hb2 : Below w1.heap.size w1 w2 := by rw [hw2]; exact (Below.refl _ _).alloc (Nat.le_refl _) _
      have F2 := Lib.hid (F1.out.trans (hb2.mono F1.out.size))
      have B2 := Lib.hid (show BoxG w.heap.size n (.slice a lg.length cap) w2 from ⟨(A1.out.on hb2).1 0 _ rfl, (A1.out.on hb2).1 1 _ rfl, (A1.out.on hb2).2.2⟩)
      have S2 := Lib.hid (C1.out.on hb2)
      clear hb2
      go_wp2_with fail
      rw [← hw2]
      clear hw2 x0 x1 y0
      refine (sets_any 99 #[.pointer (some ⟨w.heap.size + 1, 0, none⟩), .pointer (some ⟨w.heap.size, 0, none⟩)] (leastB n lg X) n _ lg _ (HI.out.on F2.out) enters_least (fun _ => rule_least w.heap.size (w.heap.size + 1) n _ lg X _ B2.out (S2.out.1 0 _ rfl) S2.out.2.2 (HI.out.on F2.out) hX7 h7)).mono ?_
      rintro e w3 ⟨v2, rfl, ho, hb⟩
      have F3 := Lib.hid (F2.out.trans (hb.mono F2.out.size))
      obtain ⟨bq, off, capq, rfl, _, _, hbq, hcell⟩ := ho.ints.pos HF.out.2
      have c0 : w3.cell? ⟨bq, off, none⟩ = some (.int .i64 (nth (famR n lg (leastB n lg X)) 0)) := hcell 0 HF.out.2
      rw [HF.out.1, ← HN.out] at c0
      obtain ⟨M, hM⟩ : ∃ M, M = (famR n lg (leastB n lg X)).length := ⟨_, rfl⟩
      have hM0 : 0 < M := by rw [hM]; exact HF.out.2
      rw [← hM]
      clear ho hb hcell hM hmf
      go_wp2
      go_ret
      exact ⟨rfl, F3.out⟩

theorem least_round {R : Nat → Nat} {N X0 k Xk : Nat} (h : Xk = leastL R N X0 k) : roundL R Xk N = leastL R N X0 (k + 1) := by
  rw [h]; rfl

theorem or_bits (X j : Nat) (hX : X < 128) (hj : j < 7) : bits .or .i64 (X : Int) ((2 ^ j : Nat) : Int) = ((X ||| 2 ^ j : Nat) : Int) :=
  (bits_nat X (2 ^ j) hX (Nat.lt_of_lt_of_le (Nat.pow_lt_pow_right (by decide) hj) (by decide))).2

set_option maxHeartbeats 4000000 in
set_option maxRecDepth 100000 in
theorem specLeast (n : Int) (v : Value) (lg : List Int) (x : Int) (w : World) (h : Ints w v lg) :
    Calls Try.prog 48 #[.agg #[.int .i64 n, v], .int .i64 x] w (fun e w' => e = .returned (.int .i64 (leastR n lg x)) ∧ Below w.heap.size w w') := by
  obtain ⟨a, cap, rfl, -, -⟩ := h.form
  have HI := Lib.hid h
  have F0 := Lib.hid (show Below w.heap.size w (w.alloc (.cells #[.int .i64 n, .slice a lg.length cap] 33)) from (Below.refl _ w).alloc (Nat.le_refl _) _)
  have A0 := Lib.hid (show Box w.heap.size [.int .i64 n, .slice a lg.length cap] (w.alloc (.cells #[.int .i64 n, .slice a lg.length cap] 33)) from Box.new w _ _)
  obtain ⟨R, hR⟩ : ∃ R, R = leastR n lg x := ⟨_, rfl⟩
  have HRR := Lib.hid hR
  rw [← hR]
  clear hR h
  go_enter Try.func48, Try.ntmps48
  go_wp2_with fail
  refine (specIsSet n _ lg x _ (HI.out.on F0.out)).mono ?_
  rintro e w1 ⟨r, rfl, hr, hb⟩
  have HR := Lib.hid hr
  have F1 := Lib.hid (F0.out.trans (hb.mono F0.out.size))
  have A1 := Lib.hid (A0.out.on hb)
  clear hr hb A0 F0
  cases r with
  | false =>
    have HN := Lib.hid (show R = 0 by rw [HRR.out]; unfold leastR; rw [if_neg (fun h => absurd (HR.out.2 h.1) (by decide))])
    go_wp2
    go_ret
    exact ⟨by rw [HN.out] <;> rfl, F1.out⟩
  | true =>
    have HS := Lib.hid (HR.out.1 (by first | rfl | trivial))
    by_cases h0 : x = 0
    · have d0 : (x == 0) = true := by simp [h0]
      have HN := Lib.hid (show R = 0 by rw [HRR.out]; unfold leastR; rw [if_neg (fun h => h.2 h0)])
      clear h0
      go_wp2
      go_ret
      exact ⟨by rw [HN.out] <;> rfl, F1.out⟩
    · have d0 : (x == 0) = false := by simp [h0]
      obtain ⟨hx1, hx2, h7⟩ := HS.out.nat
      obtain ⟨X0, hX⟩ : ∃ X, X = x.toNat := ⟨_, rfl⟩
      rw [← hX] at hx1 hx2
      have HG := Lib.hid HS.out.1
      have hnl : (lg.length : Int) = n := HG.out.2.2.1
      have hnle : n ≤ (lg.length : Int) := by omega
      have hnge : (lg.length : Int) ≤ n := by omega
      have HX2 := Lib.hid hx2
      have HN := Lib.hid (show R = ((leastL (rowN lg) lg.length X0 lg.length : Nat) : Int) by rw [HRR.out]; unfold leastR; rw [if_pos ⟨HS.out, h0⟩, ← hX])
      subst hx1
      clear hX hx2 h0 HRR hnl
      go_wp2
      go_loopw [1, 5] (fun s i wr => ∃ k X : Nat, k ≤ lg.length ∧ s = .int .i64 X ∧ i = .int .i64 k ∧ Below w1.heap.size w1 wr ∧ Hid (X = leastL (rowN lg) lg.length X0 k)) (fun _ i _ => lg.length - (intOf i).toNat)
      case atStart => exact ⟨0, X0, by omega, rfl, rfl, Below.refl _ _, rfl⟩
      case round =>
        obtain ⟨k, X, hk, rfl, rfl, hbel, HK⟩ := hrel
        have HW := Lib.hid (F1.out.trans (hbel.mono F1.out.size))
        have HBL := Lib.hid hbel
        have x0 : wr.cell? ⟨w.heap.size, 0, none⟩ = some (.int .i64 n) := (A1.out.on hbel).1 0 _ rfl
        have x1 : wr.cell? ⟨w.heap.size, 1, none⟩ = some (.slice a lg.length cap) := (A1.out.on hbel).1 1 _ rfl
        by_cases hltk : k < lg.length
        · have hki : (k : Int) < n := by omega
          have HXl := Lib.hid (show X < 2 ^ lg.length by rw [HK.out]; exact least_lt HX2.out k)
          have hX7 : X < 128 := Nat.lt_of_lt_of_le HXl.out (two_le _ h7)
          clear hbel
          go_wp2_with fail
          refine (specListOf_yes (X : Int) _ (by omega) (by omega)).mono ?_
          rintro e w3 ⟨vl, rfl, ho, hb⟩
          have HB3 := Lib.hid (HBL.out.trans (hb.mono HBL.out.size))
          obtain ⟨al, capl, rfl, -, -⟩ := ho.ints.form
          have hlen : (listU (X : Int) 7).length = popN X := by rw [listU_nat, List.length_map]; rfl
          rw [hlen]
          clear ho hb x0 x1 hlen
          go_wp2
          go_loopw [1, 6, 7] (fun s t i wr => ∃ (j Y : Nat) (aq : Option Addr) (cq : Nat), j ≤ lg.length ∧ s = .int .i64 Y ∧ t = .slice aq (popN Y) cq ∧ i = .int .i64 j ∧ Below w1.heap.size w1 wr ∧ Hid (Y = roundL (rowN lg) X j)) (fun _ _ i _ => lg.length - (intOf i).toNat)
          case atStart => exact ⟨0, X, _, _, by omega, rfl, rfl, rfl, HB3.out, rfl⟩
          case round =>
            clear HBL HB3 HW
            obtain ⟨j, Y, aq, cq, hj, rfl, rfl, rfl, hbel, HJ⟩ := hrel
            have HW := Lib.hid (F1.out.trans (hbel.mono F1.out.size))
            have HBL := Lib.hid hbel
            have x0 : wr.cell? ⟨w.heap.size, 0, none⟩ = some (.int .i64 n) := (A1.out.on hbel).1 0 _ rfl
            have x1 : wr.cell? ⟨w.heap.size, 1, none⟩ = some (.slice a lg.length cap) := (A1.out.on hbel).1 1 _ rfl
            by_cases hltj : j < lg.length
            · have hji : (j : Int) < n := by omega
              have HYl := Lib.hid (show Y < 2 ^ lg.length by rw [HJ.out]; exact round_lt HXl.out j (by omega))
              have hY7 : Y < 128 := Nat.lt_of_lt_of_le HYl.out (two_le _ h7)
              obtain ⟨b, off, cap1, hv, _, _, hb, hcell⟩ := (HI.out.on HW.out).pos (by omega)
              simp only [Value.slice.injEq] at hv
              obtain ⟨rfl, -, rfl⟩ := hv
              obtain ⟨hr2, hrow⟩ := HG.out.row_lt j hltj
              have hr7 : rowN lg j < 128 := Nat.lt_of_lt_of_le hr2 (two_le _ h7)
              obtain ⟨r, hrr⟩ : ∃ r, r = rowN lg j := ⟨_, rfl⟩
              have c1 := hcell j hltj
              rw [hrow, ← hrr] at c1
              rw [← hrr] at hr7
              obtain ⟨Z, hZ⟩ : ∃ Z, Z = r &&& Y := ⟨_, rfl⟩
              have e1 : bits .and .i64 (r : Int) (Y : Int) = (Z : Int) := by rw [hZ]; exact (bits_nat r Y hr7 hY7).1
              have hZ7 : Z < 128 := by rw [hZ]; exact Nat.lt_of_le_of_lt Nat.and_le_right hY7
              have HP := Lib.hid (popU_nat Z hZ7)
              obtain ⟨t, ht⟩ : ∃ t, t = bitAt (Y : Int) j := ⟨_, rfl⟩
              have e2 : bits .and .i64 ((Y : Int) / 2 ^ j) 1 = t := by rw [ht]; exact and_one_bit _ j
              have HE2 := Lib.hid e2
              have HTB := Lib.hid (show t = 1 ↔ Y.testBit j = true by rw [ht]; exact bitAt_nat Y j)
              have z1 : t = 0 ∨ t = 1 := by rw [ht]; exact bitAt_two _ _
              obtain ⟨P, hP⟩ : ∃ P, P = 2 ^ j := ⟨_, rfl⟩
              have p1 : (2 : Int) ^ j = (P : Int) := by rw [hP]; push_cast; rfl
              have e3 : bits .and .i64 ((Y : Int) / (P : Int)) 1 = t := by rw [← p1]; exact HE2.out
              have hP1 : 1 ≤ P := by rw [hP]; exact Nat.pow_pos (by decide)
              have hP7 : P ≤ 64 := by rw [hP]; have := Nat.pow_le_pow_right (n := 2) (by decide) (show j ≤ 6 by omega); simpa using this
              have q1 : IntKind.i64.wrap (1 * (P : Int)) = P := IntWalk.i64_in _ (by omega) |>.trans (by omega)
              obtain ⟨Y', hY'⟩ : ∃ Y', Y' = Y ||| P := ⟨_, rfl⟩
              have q2 : bits .or .i64 (Y : Int) (P : Int) = (Y' : Int) := by rw [hY', hP]; exact or_bits Y j hY7 (by omega)
              have hY'7 : Y' < 128 := by rw [hY', hP]; exact Nat.or_lt_two_pow (n := 7) hY7 (Nat.pow_lt_pow_right (by decide) (by omega))
              have HYE := Lib.hid (show Y' = Y ||| 2 ^ j by rw [hY', hP])
              have HTE := Lib.hid (show tellsB (rowN lg) Y j = (!Y.testBit j && (decide (0 < popN Z) && decide (popN Z < popN Y))) by rw [hZ, hrr]; rfl)
              obtain ⟨c, hc⟩ : ∃ c, c = popN Z := ⟨_, rfl⟩
              obtain ⟨d, hd⟩ : ∃ d, d = popN Y := ⟨_, rfl⟩
              rw [← hc] at HP HTE
              rw [← hd] at HTE ⊢
              have HSTEP := Lib.hid (show (tellsB (rowN lg) Y j = true → Y' = roundL (rowN lg) X (j + 1)) ∧ (tellsB (rowN lg) Y j = false → Y = roundL (rowN lg) X (j + 1)) by
                constructor
                · intro h; show Y' = stepL (rowN lg) (roundL (rowN lg) X j) j; rw [← HJ.out]; unfold stepL; rw [if_pos h, HYE.out]
                · intro h; show Y = stepL (rowN lg) (roundL (rowN lg) X j) j; rw [← HJ.out]; unfold stepL; rw [if_neg (by rw [h]; decide)])
              have HD := Lib.hid hd
              clear hcell hrow hr2 hrr hZ ht hP hY' hc hd hbel
              go_wp2_with fail
              refine (specCountSet (Z : Int) _).mono ?_
              rintro e w4 ⟨rfl, hb4⟩
              have HB4 := Lib.hid (HBL.out.trans (hb4.mono HBL.out.size))
              rw [HP.out]
              clear hb4 x0 x1 c1
              rcases z1 with rfl | rfl
              · by_cases g1 : 0 < c
                · have d1 : decide ((0 : Int) < (c : Int)) = true := by simp; omega
                  by_cases g2 : c < d
                  · have d2 : decide ((c : Int) < (d : Int)) = true := by simp; omega
                    have HY1 := Lib.hid (HSTEP.out.1 (by rw [HTE.out, decide_eq_true g1, decide_eq_true g2, show Y.testBit j = false by cases h : Y.testBit j with | false => rfl | true => exact absurd (HTB.out.2 h) (by decide)]; rfl))
                    go_wp2_with fail
                    refine (specListOf_yes (Y' : Int) _ (by omega) (by omega)).mono ?_
                    rintro e w5 ⟨vl, rfl, ho, hb5⟩
                    have HB5 := Lib.hid (HB4.out.trans (hb5.mono HB4.out.size))
                    obtain ⟨al2, capl2, rfl, -, -⟩ := ho.ints.form
                    have hlen : (listU (Y' : Int) 7).length = popN Y' := by rw [listU_nat, List.length_map]; rfl
                    rw [hlen]
                    clear ho hb5 hlen
                    go_wp2
                    go_roundw
                    case rel => exact ⟨j + 1, Y', _, _, by omega, rfl, rfl, by go_num, HB5.out, HY1.out⟩
                    case measure => simp [intOf]; omega
                  · have d2 : decide ((c : Int) < (d : Int)) = false := by simp; omega
                    have HY1 := Lib.hid (HSTEP.out.2 (by rw [HTE.out, decide_eq_false g2]; simp))
                    go_wp2
                    go_roundw
                    case rel => exact ⟨j + 1, Y, _, _, by omega, rfl, by rw [HD.out], by go_num, HB4.out, HY1.out⟩
                    case measure => simp [intOf]; omega
                · have d1 : decide ((0 : Int) < (c : Int)) = false := by simp; omega
                  have HY1 := Lib.hid (HSTEP.out.2 (by rw [HTE.out, decide_eq_false g1]; simp))
                  go_wp2
                  go_roundw
                  case rel => exact ⟨j + 1, Y, _, _, by omega, rfl, by rw [HD.out], by go_num, HB4.out, HY1.out⟩
                  case measure => simp [intOf]; omega
              · have HY1 := Lib.hid (HSTEP.out.2 (by rw [HTE.out, HTB.out.1 rfl]; rfl))
                go_wp2
                go_roundw
                case rel => exact ⟨j + 1, Y, _, _, by omega, rfl, by rw [HD.out], by go_num, HB4.out, HY1.out⟩
                case measure => simp [intOf]; omega
            · obtain rfl : j = lg.length := by omega
              have HY1 := Lib.hid (show Y = leastL (rowN lg) lg.length X0 (k + 1) by rw [HJ.out]; exact least_round HK.out)
              clear hbel
              go_wp2
              go_roundw
              case rel => exact ⟨k + 1, Y, by omega, rfl, by go_num, HBL.out, HY1.out⟩
              case measure => simp [intOf]; omega
        · obtain rfl : k = lg.length := by omega
          have HE := Lib.hid (show R = (X : Int) by rw [HN.out, HK.out])
          clear hbel
          go_wp2
          go_ret
          exact ⟨by rw [HE.out] <;> rfl, HW.out⟩

end Go.Proofs.Ytbmpljclplddeab
