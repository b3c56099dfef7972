/- Searches for paths. -/
import Derived.Test.YtnlfoecdphhhdaaJ3
import Derived.Test.YtnlfoecdphhhdaaJ6
import Derived.Test.YtnlfoecdphhhdaaP6
namespace Go.Proofs.Ytnlfoecdphhhdaa
set_option linter.unusedVariables false
set_option linter.unusedSimpArgs false
open Go.RowKit

set_option maxHeartbeats 2000000 in
set_option maxRecDepth 100000 in
theorem implFindPath (n : Int) (v : Value) (lg : List Int) (K : Int) (w : World) (h : Ints w v lg) :
    Calls Try.prog 27 #[.agg #[.int .i64 n, v], .int .i64 K] w (GetsLB w.heap.size w (fwpR n lg pathP K)) := by
  obtain ⟨a, cap, rfl, -, -⟩ := h.form
  have HI := Lib.hid h
  clear h
  go_enter Try.func27, Try.ntmps27
  go_wp2_with fail
  refine (firstWithPattern_any 55 #[] pathP enters_path n _ lg _ (HI.out.alloc _) K (fun N _ hN => rule_path _ _ (by omega))).mono ?_
  rintro e w1 ⟨v1, rfl, ho, hb⟩
  have HB := Lib.hid (((Below.refl _ w).alloc (Nat.le_refl _) _).trans (hb.mono (B' := w.heap.size) (by simp)))
  have HO := Lib.hid (ho.mono (B' := w.heap.size) (by simp))
  clear hb ho
  go_wp2
  go_ret2
  exact ⟨_, rfl, HO.out, HB.out⟩

set_option maxHeartbeats 2000000 in
set_option maxRecDepth 100000 in
theorem implFour (n : Int) (v : Value) (lg : List Int) (w : World) (h : Ints w v lg) :
    Calls Try.prog 37 #[.agg #[.int .i64 n, v]] w (GetsLB w.heap.size w (fwpR n lg pathP 4)) := by
  obtain ⟨a, cap, rfl, -, -⟩ := h.form
  have HI := Lib.hid h
  clear h
  go_enter Try.func37, Try.ntmps37
  go_wp2_with fail
  refine (implFindPath n _ lg 4 _ (HI.out.alloc _)).mono ?_
  rintro e w1 ⟨v1, rfl, ho, hb⟩
  have HB := Lib.hid (((Below.refl _ w).alloc (Nat.le_refl _) _).trans (hb.mono (B' := w.heap.size) (by simp)))
  have HO := Lib.hid (ho.mono (B' := w.heap.size) (by simp))
  clear hb ho
  go_wp2
  go_ret2
  exact ⟨_, rfl, HO.out, HB.out⟩

set_option maxHeartbeats 2000000 in
set_option maxRecDepth 100000 in
theorem implFindTwo (n : Int) (v : Value) (lg : List Int) (w : World) (h : Ints w v lg) :
    Calls Try.prog 25 #[.agg #[.int .i64 n, v]] w (GetsLB w.heap.size w (fwpR n lg twoP 4)) := by
  obtain ⟨a, cap, rfl, -, -⟩ := h.form
  have HI := Lib.hid h
  clear h
  go_enter Try.func25, Try.ntmps25
  go_wp2_with fail
  refine (firstWithPattern_any 51 #[] twoP enters_two n _ lg _ (HI.out.alloc _) 4 (fun N _ hN => rule_two _ _ (by omega))).mono ?_
  rintro e w1 ⟨v1, rfl, ho, hb⟩
  have HB := Lib.hid (((Below.refl _ w).alloc (Nat.le_refl _) _).trans (hb.mono (B' := w.heap.size) (by simp)))
  have HO := Lib.hid (ho.mono (B' := w.heap.size) (by simp))
  clear hb ho
  go_wp2
  go_ret2
  exact ⟨_, rfl, HO.out, HB.out⟩

set_option maxHeartbeats 2000000 in
set_option maxRecDepth 100000 in
theorem implFindClaw (n : Int) (v : Value) (lg : List Int) (w : World) (h : Ints w v lg) :
    Calls Try.prog 18 #[.agg #[.int .i64 n, v]] w (GetsLB w.heap.size w (fwpR n lg clawP 4)) := by
  obtain ⟨a, cap, rfl, -, -⟩ := h.form
  have HI := Lib.hid h
  clear h
  go_enter Try.func18, Try.ntmps18
  go_wp2_with fail
  refine (firstWithPattern_any 50 #[] clawP enters_claw n _ lg _ (HI.out.alloc _) 4 (fun N _ hN => rule_claw _ _ (by omega))).mono ?_
  rintro e w1 ⟨v1, rfl, ho, hb⟩
  have HB := Lib.hid (((Below.refl _ w).alloc (Nat.le_refl _) _).trans (hb.mono (B' := w.heap.size) (by simp)))
  have HO := Lib.hid (ho.mono (B' := w.heap.size) (by simp))
  clear hb ho
  go_wp2
  go_ret2
  exact ⟨_, rfl, HO.out, HB.out⟩

set_option maxHeartbeats 4000000 in
set_option maxRecDepth 100000 in
theorem specFindPath (n : Int) (v : Value) (lg : List Int) (K : Int) (w : World) (h : Ints w v lg) :
    Calls Try.prog 26 #[.agg #[.int .i64 n, v], .int .i64 K] w (GetsLB w.heap.size w (fwpR n lg pathP K)) := by
  obtain ⟨a, cap, rfl, -, -⟩ := h.form
  have HI := Lib.hid h
  clear h
  have HA := argG' (T := 28) (n := n) HI.out
  have HNO : Hid (¬ (IsG n lg ∧ 1 ≤ K ∧ K ≤ n) → outL (fwpR n lg pathP K) = [] ∧ outS (fwpR n lg pathP K) = false) := fun h => by unfold fwpR; rw [if_neg h]; exact ⟨rfl, rfl⟩
  go_enter Try.func26, Try.ntmps26
  go_wp2_with fail
  refine (specIsG_any n _ lg _ (HI.out.alloc _)).mono ?_
  rintro e w1 ⟨r, rfl, hr, hb⟩
  obtain ⟨c0, c1, cI, cB, hz⟩ := HA.out _ (hb.mono (by simp))
  have HB := Lib.hid cB
  have HI1 := Lib.hid cI
  have HR := Lib.hid hr
  have hz1 : w.heap.size ≤ w1.heap.size := cB.size
  have HE := Lib.hid (OwnI.lit0 w1 w.heap.size hz1)
  clear hb hr cI cB hz
  cases r with
  | false =>
    have HN := Lib.hid (HNO.out fun h => absurd (HR.out.2 h.1) (by decide))
    go_wp2
    go_ret2
    exact ⟨_, by rw [HN.out.2]; rfl, by rw [HN.out.1]; exact HE.out, HB.out.alloc hz1 _⟩
  | true =>
    have HG := Lib.hid (HR.out.1 (by first | rfl | trivial))
    by_cases hk : 1 ≤ K ∧ K ≤ n
    · have HK := Lib.hid hk
      clear hk
      go_wp2_with fail
      refine (l1In_yes' K 1 n _ HK.out.1 HK.out.2).mono ?_
      rintro e w2 ⟨rfl, rfl⟩
      obtain ⟨N, hN⟩ : ∃ N : Nat, K = N := ⟨K.toNat, by have := HK.out.1; omega⟩
      subst hN
      have HN7 := Lib.hid (show N ≤ 7 by have := HK.out.2; have := HG.out.2.1; omega)
      have HQ := Lib.hid (show fwpR n lg pathP N = srchS lg.length (fitC n lg false N) (endC n lg false) N [] by
        rw [search_open HG.out]; unfold fwpR; rw [if_pos ⟨HG.out, HK.out.1, HK.out.2⟩]; rfl)
      have HIE := Lib.hid (HI1.out.alloc (.cells #[] 3))
      have hzB : w.heap.size ≤ (w1.alloc (.cells #[] 3)).heap.size := by simp; omega
      go_wp2_with fail
      refine (l4Search_is n _ lg false N HN7.out HG.out w.heap.size N [] _ _ HIE.out HE.out hzB (by simp)).mono ?_
      rintro e w3 ⟨v3, l3, rfl, ho, hor, hb⟩
      have HB3 := Lib.hid ((HB.out.alloc hz1 _).trans (hb.mono hzB))
      rw [← HQ.out] at hor ⊢
      have HL3 := Lib.hid (show l3 = outL (fwpR n lg pathP N) by
        rcases hor with ⟨h, -⟩ | h
        · cases h
        · exact h)
      have HO := Lib.hid ho
      clear ho hor hb hzB
      go_wp2
      go_ret2
      exact ⟨_, rfl, by rw [← HL3.out]; exact HO.out, HB3.out⟩
    · have HN := Lib.hid (HNO.out fun h => hk h.2)
      have HK := Lib.hid hk
      clear hk
      go_wp2_with fail
      refine (l1In_no' K 1 n _ HK.out).mono ?_
      rintro e w2 ⟨rfl, rfl⟩
      go_wp2
      go_ret2
      exact ⟨_, by rw [HN.out.2]; rfl, by rw [HN.out.1]; exact HE.out, HB.out.alloc hz1 _⟩

set_option maxHeartbeats 2000000 in
set_option maxRecDepth 100000 in
theorem specFour (n : Int) (v : Value) (lg : List Int) (w : World) (h : Ints w v lg) :
    Calls Try.prog 36 #[.agg #[.int .i64 n, v]] w (GetsLB w.heap.size w (fwpR n lg pathP 4)) := by
  obtain ⟨a, cap, rfl, -, -⟩ := h.form
  have HI := Lib.hid h
  clear h
  go_enter Try.func36, Try.ntmps36
  go_wp2_with fail
  refine (specFindPath n _ lg 4 _ (HI.out.alloc _)).mono ?_
  rintro e w1 ⟨v1, rfl, ho, hb⟩
  have HB := Lib.hid (((Below.refl _ w).alloc (Nat.le_refl _) _).trans (hb.mono (B' := w.heap.size) (by simp)))
  have HO := Lib.hid (ho.mono (B' := w.heap.size) (by simp))
  clear hb ho
  go_wp2
  go_ret2
  exact ⟨_, rfl, HO.out, HB.out⟩

set_option maxHeartbeats 2000000 in
set_option maxRecDepth 100000 in
theorem implCograph (n : Int) (v : Value) (lg : List Int) (w : World) (h : Ints w v lg) :
    Calls Try.prog 39 #[.agg #[.int .i64 n, v]] w (SaysB (IsG n lg ∧ fwpR n lg pathP 4 = none) w) := by
  obtain ⟨a, cap, rfl, -, -⟩ := h.form
  have HI := Lib.hid h
  clear h
  have HA := argG' (T := 28) (n := n) HI.out
  go_enter Try.func39, Try.ntmps39
  go_wp2_with fail
  refine (implFour n _ lg _ (HI.out.alloc _)).mono ?_
  rintro e w1 ⟨v1, rfl, ho, hb⟩
  obtain ⟨c0, c1, cI, cB, hz⟩ := HA.out _ (hb.mono (by simp))
  have HB := Lib.hid cB
  have HI1 := Lib.hid cI
  clear hb ho cI cB hz
  go_wp2_with fail
  refine (implIsG_any n _ lg _ HI1.out).mono ?_
  rintro e w2 ⟨r, rfl, hr, hb⟩
  have HB2 := Lib.hid (HB.out.trans (hb.mono HB.out.size))
  have HR := Lib.hid hr
  clear hb hr c0 c1
  cases r with
  | false =>
    have HN := Lib.hid (show ¬ IsG n lg from fun h => absurd (HR.out.2 h) (by decide))
    go_wp2
    go_ret
    exact SaysB.no (fun h => HN.out h.1) HB2.out
  | true =>
    have HY := Lib.hid (HR.out.1 (by first | rfl | trivial))
    cases hF : fwpR n lg pathP 4 with
    | some y =>
      have b0 : outS (some y) = true := rfl
      have HF := Lib.hid hF
      clear hF
      go_wp2
      go_ret
      exact SaysB.no (fun h => by have h2 := HF.out.symm.trans h.2; cases h2) HB2.out
    | none =>
      have b0 : outS (none : Option (List Int)) = false := rfl
      have HF := Lib.hid hF
      clear hF
      go_wp2
      go_ret
      exact SaysB.yes ⟨HY.out, HF.out⟩ HB2.out

set_option maxHeartbeats 2000000 in
set_option maxRecDepth 100000 in
theorem specCograph (n : Int) (v : Value) (lg : List Int) (w : World) (h : Ints w v lg) :
    Calls Try.prog 38 #[.agg #[.int .i64 n, v]] w (SaysB (IsG n lg ∧ fwpR n lg pathP 4 = none) w) := by
  obtain ⟨a, cap, rfl, -, -⟩ := h.form
  have HI := Lib.hid h
  clear h
  have HA := argG' (T := 28) (n := n) HI.out
  go_enter Try.func38, Try.ntmps38
  go_wp2_with fail
  refine (specFour n _ lg _ (HI.out.alloc _)).mono ?_
  rintro e w1 ⟨v1, rfl, ho, hb⟩
  obtain ⟨c0, c1, cI, cB, hz⟩ := HA.out _ (hb.mono (by simp))
  have HB := Lib.hid cB
  have HI1 := Lib.hid cI
  clear hb ho cI cB hz
  go_wp2_with fail
  refine (specIsG_any n _ lg _ HI1.out).mono ?_
  rintro e w2 ⟨r, rfl, hr, hb⟩
  have HB2 := Lib.hid (HB.out.trans (hb.mono HB.out.size))
  have HR := Lib.hid hr
  clear hb hr c0 c1
  cases r with
  | false =>
    have HN := Lib.hid (show ¬ IsG n lg from fun h => absurd (HR.out.2 h) (by decide))
    go_wp2
    go_ret
    exact SaysB.no (fun h => HN.out h.1) HB2.out
  | true =>
    have HY := Lib.hid (HR.out.1 (by first | rfl | trivial))
    cases hF : fwpR n lg pathP 4 with
    | some y =>
      have b0 : outS (some y) = true := rfl
      have HF := Lib.hid hF
      clear hF
      go_wp2
      go_ret
      exact SaysB.no (fun h => by have h2 := HF.out.symm.trans h.2; cases h2) HB2.out
    | none =>
      have b0 : outS (none : Option (List Int)) = false := rfl
      have HF := Lib.hid hF
      clear hF
      go_wp2
      go_ret
      exact SaysB.yes ⟨HY.out, HF.out⟩ HB2.out

end Go.Proofs.Ytnlfoecdphhhdaa
