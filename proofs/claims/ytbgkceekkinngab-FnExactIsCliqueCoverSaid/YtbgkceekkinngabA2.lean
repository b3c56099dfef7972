/- IsCliqueCover. -/
import Derived.Test.YtbgkceekkinngabT1
import Derived.Test.YtbgkceekkinngabH2
import Derived.Test.YtbgkceekkinngabQ
namespace Go.Proofs.Ytbgkceekkinngab
set_option linter.unusedVariables false
set_option linter.unusedSimpArgs false
open Go.RowKit

/-- What cliques that do not meet cover, from s on; none if one is no clique or meets what is covered. -/
def covL (n : Int) (lg : List Int) : List Int → Nat → Option Nat
  | [], s => some s
  | x :: t, s => if CliqueS n lg x ∧ x.toNat &&& s = 0 then covL n lg t (s ||| x.toNat) else none

def CovP (n : Int) (lg l : List Int) : Prop := IsG n lg ∧ covL n lg l 0 = some (2 ^ lg.length - 1)

instance (n : Int) (lg l : List Int) : Decidable (CovP n lg l) := by unfold CovP; infer_instance

theorem cov_step (n : Int) (lg l : List Int) (j s : Nat) (h : j < l.length) (hq : CliqueS n lg (nth l j)) (hd : (nth l j).toNat &&& s = 0) : covL n lg (l.drop j) s = covL n lg (l.drop (j + 1)) (s ||| (nth l j).toNat) := by
  rw [drop_nth l j h]; simp only [covL]; rw [if_pos ⟨hq, hd⟩]

theorem cov_stop (n : Int) (lg l : List Int) (j s : Nat) (h : j < l.length) (hn : ¬ (CliqueS n lg (nth l j) ∧ (nth l j).toNat &&& s = 0)) : covL n lg (l.drop j) s = none := by
  rw [drop_nth l j h]; simp only [covL]; rw [if_neg hn]

set_option maxHeartbeats 2000000 in
set_option maxRecDepth 100000 in
theorem implCov (n : Int) (v vl : Value) (lg l : List Int) (w : World) (h : Ints w v lg) (hl : Ints w vl l) (hlen : l.length ≤ 1048576) :
    Calls Try.prog 19 #[.agg #[.int .i64 n, v], vl] w (SaysB (CovP n lg l) w) := by
  obtain ⟨a, cap, rfl, -, -⟩ := h.form
  obtain ⟨al, capl, rfl, -, hml⟩ := hl.form
  have HA := argG' (T := 27) (n := n) h
  have HL := Lib.hid hl
  unfold maxLen at hml
  clear h hl
  obtain ⟨R, hR⟩ : ∃ R, R = covL n lg l 0 := ⟨_, rfl⟩
  have HRR := Lib.hid hR
  clear hR
  go_enter Try.func19, Try.ntmps19
  go_wp2
  go_loopw [5, 7, 10] (fun c y i wr => ∃ (j S : Nat), j ≤ l.length ∧ S < 128 ∧ i = .int .i64 j ∧ c = .int .i64 S ∧ Hid (R = covL n lg (l.drop j) S) ∧ Below (w.heap.size + 1) (w.alloc (.cells #[.int .i64 n, .slice a lg.length cap] 27)) wr) (fun _ _ i _ => l.length - (intOf i).toNat)
  case atStart => exact ⟨0, 0, by omega, by omega, rfl, rfl, HRR.out, Below.refl _ _⟩
  case round =>
    obtain ⟨j, S, hj, hS7, rfl, rfl, HS, hbel⟩ := hrel
    have HBL := Lib.hid hbel
    clear hbel
    obtain ⟨c0, c1, cI, cB, hz⟩ := HA.out _ HBL.out
    have HCI := Lib.hid cI
    have HCB := Lib.hid cB
    clear cI cB
    by_cases hlt : j < l.length
    · obtain ⟨b2, off2, capl', hv, hc2, hmx2, hbk2, hcell2⟩ := HL.out.pos (by omega)
      simp only [Value.slice.injEq] at hv
      obtain ⟨rfl, -, rfl⟩ := hv
      have HC2 := Lib.hid hcell2
      obtain ⟨x, hx⟩ : ∃ x, x = nth l j := ⟨_, rfl⟩
      have HXX := Lib.hid hx
      have e1 := (HCB.out.cell (p := ⟨b2, off2 + j, none⟩) hbk2).trans (hcell2 j hlt)
      rw [← hx] at e1
      unfold maxLen at hmx2
      clear hcell2 hx
      have HX : Hid (∀ X : Since wr, ArgG 27 w n (.slice a lg.length cap) lg X.val) := fun X => HA.out _ (HBL.out.trans (X.prop.mono hz))
      go_wp2_with fail
      refine (implClique n _ lg x _ HCI.out).mono ?_
      rintro e w2 ⟨r, rfl, hr, hb⟩
      have HB3 := Lib.hid (HBL.out.trans (hb.mono hz))
      have HW := Lib.hid (HCB.out.trans (hb.mono HCB.out.size))
      have HR := Lib.hid hr
      clear hb hr c0 c1 hz HCI e1
      cases r with
      | false =>
        have HN := Lib.hid (show ¬ CovP n lg l from fun h => by
          have h1 := (HRR.out.symm.trans HS.out).symm.trans h.2
          rw [cov_stop n lg l j S hlt (fun hh => absurd (HR.out.2 (by rw [HXX.out]; exact hh.1)) (by decide))] at h1
          cases h1)
        go_wp2
        go_ret
        exact SaysB.no HN.out HW.out
      | true =>
        have HQ := Lib.hid (HR.out.1 (by first | rfl | trivial))
        obtain ⟨X, rfl⟩ := Int.eq_ofNat_of_zero_le HQ.out.1.2.1
        have hX7 : X < 128 := by have := isS_small HQ.out.1; omega
        obtain ⟨D, hD⟩ : ∃ D, D = (X &&& S) := ⟨_, rfl⟩
        have q1 : bits .and .i64 (X : Int) (S : Int) = (D : Int) := by rw [hD]; exact (bits_nat X S hX7 hS7).1
        obtain ⟨T, hT⟩ : ∃ T, T = (S ||| X) := ⟨_, rfl⟩
        have q2 : bits .or .i64 (S : Int) (X : Int) = (T : Int) := by rw [hT]; exact (bits_nat S X hS7 hX7).2
        have hT7 : T < 128 := by rw [hT]; exact Nat.or_lt_two_pow (n := 7) hS7 hX7
        have HDD := Lib.hid hD
        have HTT := Lib.hid hT
        clear hD hT
        by_cases hd : D = 0
        · have d0 : ((D : Int) != 0) = false := by rw [bne_eq_false_iff_eq]; omega
          have HT : Hid (covL n lg (l.drop j) S = covL n lg (l.drop (j + 1)) T) := by
            rw [HTT.out]
            have := cov_step n lg l j S hlt (by rw [← HXX.out]; exact HQ.out) (by rw [← HXX.out, Int.toNat_natCast, ← HDD.out]; exact hd)
            rw [← HXX.out, Int.toNat_natCast] at this
            exact this
          clear hd
          go_wp2
          go_roundw
          case rel => exact ⟨j + 1, T, by omega, hT7, by go_num, rfl, by rw [HS.out]; exact HT.out, HB3.out⟩
          case measure => simp [intOf]; omega
        · have d0 : ((D : Int) != 0) = true := by rw [bne_iff_ne]; omega
          have HN := Lib.hid (show ¬ CovP n lg l from fun h => by
            have h1 := (HRR.out.symm.trans HS.out).symm.trans h.2
            rw [cov_stop n lg l j S hlt (fun hh => hd (by rw [HDD.out]; have := hh.2; rwa [← HXX.out, Int.toNat_natCast] at this))] at h1
            cases h1)
          clear hd
          go_wp2
          go_ret
          exact SaysB.no HN.out HW.out
    · obtain rfl : j = l.length := by omega
      have HE := Lib.hid (show covL n lg l 0 = some S by rw [← HRR.out, HS.out, List.drop_length]; rfl)
      go_wp2_with fail
      refine (implIsG_any n _ lg _ HCI.out).mono ?_
      rintro e w2 ⟨r, rfl, hr, hb⟩
      have HB3 := Lib.hid (HBL.out.trans (hb.mono hz))
      have HR := Lib.hid hr
      clear hb hr c0 c1 hz HCI HCB
      obtain ⟨c0, c1, cI, cB, hz⟩ := HA.out _ HB3.out
      have HCI := Lib.hid cI
      have HCB := Lib.hid cB
      clear cI cB
      cases r with
      | false =>
        go_wp2
        go_ret
        exact SaysB.no (fun h => absurd (HR.out.2 h.1) (by decide)) HCB.out
      | true =>
        have HG := Lib.hid (HR.out.1 (by first | rfl | trivial))
        have hn1 := HG.out.1
        have hn7 := HG.out.2.1
        have hnl : n.toNat = lg.length := by have := HG.out.2.2.1; omega
        obtain ⟨F, hF⟩ : ∃ F, F = 2 ^ lg.length := ⟨_, rfl⟩
        have eF : (2 : Int) ^ n.toNat = (F : Int) := by rw [hF, hnl]; push_cast; rfl
        have hF1 : 1 ≤ F := by rw [hF]; exact Nat.pow_pos (by decide)
        have hF7 : F ≤ 128 := by rw [hF]; exact two_le _ (by omega)
        have HP := Lib.hid (show CovP n lg l ↔ (S : Int) = (F : Int) - 1 from
          ⟨fun h => by have := Option.some.inj (HE.out.symm.trans h.2); rw [hF]; omega, fun h => ⟨HG.out, by rw [HE.out, ← hF]; exact congrArg some (by omega)⟩⟩)
        go_wp2_with fail
        refine (allVertices_is n _ lg _ HCI.out hn1 hn7).mono ?_
        rintro e w3 ⟨rfl, hb⟩
        have HW := Lib.hid (HCB.out.trans (hb.mono HCB.out.size))
        clear hb c0 c1 hz HCI HCB
        rw [eF]
        clear hF hnl
        by_cases hc : (S : Int) = (F : Int) - 1
        · have d0 : ((S : Int) == (F : Int) - 1) = true := by rw [beq_iff_eq]; exact hc
          have HY := Lib.hid (HP.out.2 hc)
          clear hc
          go_wp2
          go_ret
          exact SaysB.yes HY.out HW.out
        · have d0 : ((S : Int) == (F : Int) - 1) = false := by rw [beq_eq_false_iff_ne]; exact hc
          have HY := Lib.hid (fun h => hc (HP.out.1 h))
          clear hc
          go_wp2
          go_ret
          exact SaysB.no HY.out HW.out

set_option maxHeartbeats 2000000 in
set_option maxRecDepth 100000 in
theorem specCov (n : Int) (v vl : Value) (lg l : List Int) (w : World) (h : Ints w v lg) (hl : Ints w vl l) (hlen : l.length ≤ 1048576) :
    Calls Try.prog 16 #[.agg #[.int .i64 n, v], vl] w (SaysB (CovP n lg l) w) := by
  obtain ⟨a, cap, rfl, -, -⟩ := h.form
  obtain ⟨al, capl, rfl, -, hml⟩ := hl.form
  have HA := argG' (T := 27) (n := n) h
  have HL := Lib.hid hl
  unfold maxLen at hml
  clear h hl
  obtain ⟨R, hR⟩ : ∃ R, R = covL n lg l 0 := ⟨_, rfl⟩
  have HRR := Lib.hid hR
  clear hR
  go_enter Try.func16, Try.ntmps16
  go_wp2
  go_loopw [5, 6] (fun c i wr => ∃ (j S : Nat), j ≤ l.length ∧ S < 128 ∧ i = .int .i64 j ∧ c = .int .i64 S ∧ Hid (R = covL n lg (l.drop j) S) ∧ Below (w.heap.size + 1) (w.alloc (.cells #[.int .i64 n, .slice a lg.length cap] 27)) wr) (fun _ i _ => l.length - (intOf i).toNat)
  case atStart => exact ⟨0, 0, by omega, by omega, rfl, rfl, HRR.out, Below.refl _ _⟩
  case round =>
    obtain ⟨j, S, hj, hS7, rfl, rfl, HS, hbel⟩ := hrel
    have HBL := Lib.hid hbel
    clear hbel
    obtain ⟨c0, c1, cI, cB, hz⟩ := HA.out _ HBL.out
    have HCI := Lib.hid cI
    have HCB := Lib.hid cB
    clear cI cB
    by_cases hlt : j < l.length
    · obtain ⟨b2, off2, capl', hv, hc2, hmx2, hbk2, hcell2⟩ := HL.out.pos (by omega)
      simp only [Value.slice.injEq] at hv
      obtain ⟨rfl, -, rfl⟩ := hv
      have HC2 := Lib.hid hcell2
      obtain ⟨x, hx⟩ : ∃ x, x = nth l j := ⟨_, rfl⟩
      have HXX := Lib.hid hx
      have e1 := (HCB.out.cell (p := ⟨b2, off2 + j, none⟩) hbk2).trans (hcell2 j hlt)
      rw [← hx] at e1
      unfold maxLen at hmx2
      clear hcell2 hx
      have HX : Hid (∀ X : Since wr, ArgG 27 w n (.slice a lg.length cap) lg X.val) := fun X => HA.out _ (HBL.out.trans (X.prop.mono hz))
      have hx0 : ∀ X : Since wr, X.val.cell? ⟨w.heap.size, 0, none⟩ = some (.int .i64 n) := fun X => (HX.out X).1
      have hx1 : ∀ X : Since wr, X.val.cell? ⟨w.heap.size, 1, none⟩ = some (.slice a lg.length cap) := fun X => (HX.out X).2.1
      have hx2 : ∀ X : Since wr, X.val.cell? ⟨b2, off2 + j, none⟩ = some (.int .i64 x) := fun X => by
        rw [HXX.out]; exact ((HX.out X).2.2.2.1.cell (p := ⟨b2, off2 + j, none⟩) hbk2).trans (HC2.out j hlt)
      clear c0 c1 HCI e1
      by_cases hq : CliqueS n lg x
      · have HC1 : Hid (∀ X : Since wr, Calls Try.prog 63 #[.agg #[.int .i64 n, .slice a lg.length cap], .int .i64 x] X.val fun e w' => e = .returned (.bool true) ∧ Below X.val.heap.size X.val w') := fun X => (specClique n _ lg x _ (HX.out X).2.2.1).mono fun _ _ h => h.is_yes hq
        have HQ := Lib.hid hq
        clear hq
        obtain ⟨X, rfl⟩ := Int.eq_ofNat_of_zero_le HQ.out.1.2.1
        have hX7 : X < 128 := by have := isS_small HQ.out.1; omega
        obtain ⟨D, hD⟩ : ∃ D, D = (X &&& S) := ⟨_, rfl⟩
        have q1 : bits .and .i64 (S : Int) (X : Int) = (D : Int) := by rw [hD, Nat.and_comm]; exact (bits_nat S X hS7 hX7).1
        obtain ⟨T, hT⟩ : ∃ T, T = (S ||| X) := ⟨_, rfl⟩
        have q2 : bits .or .i64 (S : Int) (X : Int) = (T : Int) := by rw [hT]; exact (bits_nat S X hS7 hX7).2
        have hT7 : T < 128 := by rw [hT]; exact Nat.or_lt_two_pow (n := 7) hS7 hX7
        have HDD := Lib.hid hD
        have HTT := Lib.hid hT
        clear hD hT
        by_cases hd : D = 0
        · have d0 : ((D : Int) != 0) = false := by rw [bne_eq_false_iff_eq]; omega
          have HT : Hid (covL n lg (l.drop j) S = covL n lg (l.drop (j + 1)) T) := by
            rw [HTT.out]
            have := cov_step n lg l j S hlt (by rw [← HXX.out]; exact HQ.out) (by rw [← HXX.out, Int.toNat_natCast, ← HDD.out]; exact hd)
            rw [← HXX.out, Int.toNat_natCast] at this
            exact this
          clear hd
          go_wp2
          refine wp_region_since (by kernel_rfl) (by kernel_rfl) ?_
          repeat (go_big_quiet_step (exact since_call (HC1.out _)))
          refine wpQuiet_nil ?_
          intro Y
          have HB3 := Lib.hid (HBL.out.trans (Y.prop.mono hz))
          have e5 := hx2 Y
          clear hx0 hx1 hx2 d0 q1
          go_wp2
          go_roundw
          case rel => exact ⟨j + 1, T, by omega, hT7, by go_num, rfl, by rw [HS.out]; exact HT.out, HB3.out⟩
          case measure => simp [intOf]; omega
        · have d0 : ((D : Int) != 0) = true := by rw [bne_iff_ne]; omega
          have HN := Lib.hid (show ¬ CovP n lg l from fun h => by
            have h1 := (HRR.out.symm.trans HS.out).symm.trans h.2
            rw [cov_stop n lg l j S hlt (fun hh => hd (by rw [HDD.out]; have := hh.2; rwa [← HXX.out, Int.toNat_natCast] at this))] at h1
            cases h1)
          clear hd
          go_wp2
          refine wp_region_since (by kernel_rfl) (by kernel_rfl) ?_
          repeat (go_big_quiet_step (exact since_call (HC1.out _)))
          refine wpQuiet_nil ?_
          intro Y
          have HW := Lib.hid (HX.out Y).2.2.2.1
          clear hx0 hx1 hx2 d0 q1
          go_wp2
          go_ret
          exact SaysB.no HN.out HW.out
      · have HC1 : Hid (∀ X : Since wr, Calls Try.prog 63 #[.agg #[.int .i64 n, .slice a lg.length cap], .int .i64 x] X.val fun e w' => e = .returned (.bool false) ∧ Below X.val.heap.size X.val w') := fun X => (specClique n _ lg x _ (HX.out X).2.2.1).mono fun _ _ h => h.is_no hq
        have HN := Lib.hid (show ¬ CovP n lg l from fun h => by
          have h1 := (HRR.out.symm.trans HS.out).symm.trans h.2
          rw [cov_stop n lg l j S hlt (fun hh => hq (by rw [HXX.out]; exact hh.1))] at h1
          cases h1)
        clear hq
        go_wp2
        refine wp_region_since (by kernel_rfl) (by kernel_rfl) ?_
        repeat (go_big_quiet_step (exact since_call (HC1.out _)))
        refine wpQuiet_nil ?_
        intro Y
        have HW := Lib.hid (HX.out Y).2.2.2.1
        clear hx0 hx1 hx2
        go_wp2
        go_ret
        exact SaysB.no HN.out HW.out
    · obtain rfl : j = l.length := by omega
      have HE := Lib.hid (show covL n lg l 0 = some S by rw [← HRR.out, HS.out, List.drop_length]; rfl)
      go_wp2_with fail
      refine (specIsG_any n _ lg _ HCI.out).mono ?_
      rintro e w2 ⟨r, rfl, hr, hb⟩
      have HB3 := Lib.hid (HBL.out.trans (hb.mono hz))
      have HR := Lib.hid hr
      clear hb hr c0 c1 hz HCI HCB
      obtain ⟨c0, c1, cI, cB, hz⟩ := HA.out _ HB3.out
      have HCI := Lib.hid cI
      have HCB := Lib.hid cB
      clear cI cB
      cases r with
      | false =>
        go_wp2
        go_ret
        exact SaysB.no (fun h => absurd (HR.out.2 h.1) (by decide)) HCB.out
      | true =>
        have HG := Lib.hid (HR.out.1 (by first | rfl | trivial))
        have hn1 := HG.out.1
        have hn7 := HG.out.2.1
        have hnl : n.toNat = lg.length := by have := HG.out.2.2.1; omega
        obtain ⟨F, hF⟩ : ∃ F, F = 2 ^ lg.length := ⟨_, rfl⟩
        have eF : (2 : Int) ^ n.toNat = (F : Int) := by rw [hF, hnl]; push_cast; rfl
        have hF1 : 1 ≤ F := by rw [hF]; exact Nat.pow_pos (by decide)
        have hF7 : F ≤ 128 := by rw [hF]; exact two_le _ (by omega)
        have HP := Lib.hid (show CovP n lg l ↔ (S : Int) = (F : Int) - 1 from
          ⟨fun h => by have := Option.some.inj (HE.out.symm.trans h.2); rw [hF]; omega, fun h => ⟨HG.out, by rw [HE.out, ← hF]; exact congrArg some (by omega)⟩⟩)
        have HW := HCB
        have q6 : IntKind.i64.wrap (1 * (F : Int)) = F := IntWalk.i64_in _ (by omega) |>.trans (by omega)
        have q7 : IntKind.i64.wrap ((F : Int) - 1) = (F : Int) - 1 := IntWalk.i64_in _ (by omega)
        clear hF hnl
        by_cases hc : (S : Int) = (F : Int) - 1
        · have d0 : ((S : Int) == (F : Int) - 1) = true := by rw [beq_iff_eq]; exact hc
          have HY := Lib.hid (HP.out.2 hc)
          clear hc
          go_wp2
          go_ret
          exact SaysB.yes HY.out HW.out
        · have d0 : ((S : Int) == (F : Int) - 1) = false := by rw [beq_eq_false_iff_ne]; exact hc
          have HY := Lib.hid (fun h => hc (HP.out.1 h))
          clear hc
          go_wp2
          go_ret
          exact SaysB.no HY.out HW.out

end Go.Proofs.Ytbgkceekkinngab
