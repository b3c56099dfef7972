/- Odd antiholes. -/
import Derived.Test.YtnlfoecdphhhdaaJ9
import Derived.Test.YtnlfoecdphhhdaaG9
namespace Go.Proofs.Ytnlfoecdphhhdaa
set_option linter.unusedVariables false
set_option linter.unusedSimpArgs false
open Go.RowKit

theorem nonG0 : ¬ IsG 0 [] := fun h => absurd h.1 (by decide)

/-- The first odd hole of the complement. -/
def antR (n : Int) (lg : List Int) : Option (List Int) := if IsG n lg then holeR n (compL lg) 2 2 5 else none

def perfR (n : Int) (lg : List Int) : Option (List Int) :=
  match holeR n lg 2 2 5 with
  | some y => some y
  | none => antR n lg

theorem antR_len (n : Int) (lg : List Int) : (outL (antR n lg)).length ≤ 7 := by
  unfold antR
  split
  · exact holeR_len _ _ _ _ _
  · simp [outL]

theorem perfR_len (n : Int) (lg : List Int) : (outL (perfR n lg)).length ≤ 7 := by
  have h := holeR_len n lg 2 2 5
  unfold perfR
  cases hF : holeR n lg 2 2 5 with
  | some y => rw [hF] at h; exact h
  | none => exact antR_len n lg

set_option maxHeartbeats 4000000 in
set_option maxRecDepth 100000 in
theorem implAnti (n : Int) (v : Value) (lg : List Int) (w : World) (h : Ints w v lg) :
    Calls Try.prog 33 #[.agg #[.int .i64 n, v]] w (GetsLB w.heap.size w (antR n lg)) := by
  obtain ⟨a, cap, rfl, -, -⟩ := h.form
  have HI := Lib.hid h
  clear h
  have HA := argG' (T := 28) (n := n) HI.out
  by_cases hg : IsG n lg
  · have HG := Lib.hid hg
    have HQ := Lib.hid (show antR n lg = holeR n (compL lg) 2 2 5 from if_pos hg)
    clear hg
    go_enter Try.func33, Try.ntmps33
    go_wp2_with fail
    refine (implComplement_yes n _ lg _ (HI.out.alloc _) HG.out).mono ?_
    rintro e w1 ⟨v1, rfl, ho, hb⟩
    obtain ⟨a1, cap1, rfl, -, -⟩ := ho.ints.form
    have cB : Below w.heap.size w w1 := ((Below.refl _ w).alloc (Nat.le_refl _) _).trans (hb.mono (B' := w.heap.size) (by simp))
    obtain ⟨w2, hw2⟩ : ∃ w2, w2 = w1.alloc (.cells #[.int .i64 n, .slice a1 (compL lg).length cap1] 28) := ⟨_, rfl⟩
    have HO := Lib.hid (show Ints w2 (.slice a1 (compL lg).length cap1) (compL lg) by rw [hw2]; exact ho.ints.alloc _)
    have HB2 := Lib.hid (show Below w.heap.size w w2 by rw [hw2]; exact cB.alloc cB.size _)
    clear ho hb cB
    go_wp2_with fail
    rw [← hw2]
    clear hw2
    refine (implOdd n _ (compL lg) _ HO.out).mono ?_
    rintro e w3 ⟨v3, rfl, ho, hb⟩
    have HB3 := Lib.hid (HB2.out.trans (hb.mono HB2.out.size))
    have HO3 := Lib.hid (ho.mono (B' := w.heap.size) HB2.out.size)
    rw [← HQ.out] at HO3 ⊢
    clear ho hb
    go_wp2
    go_ret2
    exact ⟨_, rfl, HO3.out, HB3.out⟩
  · have HG := Lib.hid hg
    have HQ := Lib.hid (show antR n lg = holeR 0 [] 2 2 5 by unfold antR; rw [if_neg hg]; exact (holeR_none 0 [] 2 2 5 (fun h => nonG0 h.1)).symm)
    clear hg
    go_enter Try.func33, Try.ntmps33
    go_wp2_with fail
    refine (implComplement_no n _ lg _ (HI.out.alloc _) HG.out).mono ?_
    rintro e w1 ⟨v1, rfl, ho, hb⟩
    obtain ⟨a1, cap1, rfl, -, -⟩ := ho.ints.form
    have cB : Below w.heap.size w w1 := ((Below.refl _ w).alloc (Nat.le_refl _) _).trans (hb.mono (B' := w.heap.size) (by simp))
    obtain ⟨w2, hw2⟩ : ∃ w2, w2 = w1.alloc (.cells #[.int .i64 0, .slice a1 0 cap1] 28) := ⟨_, rfl⟩
    have HO := Lib.hid (show Ints w2 (.slice a1 0 cap1) [] by rw [hw2]; exact ho.ints.alloc _)
    have HB2 := Lib.hid (show Below w.heap.size w w2 by rw [hw2]; exact cB.alloc cB.size _)
    clear ho hb cB
    go_wp2_with fail
    rw [← hw2]
    clear hw2
    refine (implOdd 0 _ [] _ HO.out).mono ?_
    rintro e w3 ⟨v3, rfl, ho, hb⟩
    have HB3 := Lib.hid (HB2.out.trans (hb.mono HB2.out.size))
    have HO3 := Lib.hid (ho.mono (B' := w.heap.size) HB2.out.size)
    rw [← HQ.out] at HO3 ⊢
    clear ho hb
    go_wp2
    go_ret2
    exact ⟨_, rfl, HO3.out, HB3.out⟩

set_option maxHeartbeats 4000000 in
set_option maxRecDepth 100000 in
theorem specAnti (n : Int) (v : Value) (lg : List Int) (w : World) (h : Ints w v lg) :
    Calls Try.prog 32 #[.agg #[.int .i64 n, v]] w (GetsLB w.heap.size w (antR n lg)) := by
  obtain ⟨a, cap, rfl, -, -⟩ := h.form
  have HI := Lib.hid h
  clear h
  have HA := argG' (T := 28) (n := n) HI.out
  by_cases hg : IsG n lg
  · have HG := Lib.hid hg
    have HQ := Lib.hid (show antR n lg = holeR n (compL lg) 2 2 5 from if_pos hg)
    clear hg
    go_enter Try.func32, Try.ntmps32
    go_wp2_with fail
    refine (specComplement_yes n _ lg _ (HI.out.alloc _) HG.out).mono ?_
    rintro e w1 ⟨v1, rfl, ho, hb⟩
    obtain ⟨a1, cap1, rfl, -, -⟩ := ho.ints.form
    have cB : Below w.heap.size w w1 := ((Below.refl _ w).alloc (Nat.le_refl _) _).trans (hb.mono (B' := w.heap.size) (by simp))
    obtain ⟨w2, hw2⟩ : ∃ w2, w2 = w1.alloc (.cells #[.int .i64 n, .slice a1 (compL lg).length cap1] 28) := ⟨_, rfl⟩
    have HO := Lib.hid (show Ints w2 (.slice a1 (compL lg).length cap1) (compL lg) by rw [hw2]; exact ho.ints.alloc _)
    have HB2 := Lib.hid (show Below w.heap.size w w2 by rw [hw2]; exact cB.alloc cB.size _)
    clear ho hb cB
    go_wp2_with fail
    rw [← hw2]
    clear hw2
    refine (specOdd n _ (compL lg) _ HO.out).mono ?_
    rintro e w3 ⟨v3, rfl, ho, hb⟩
    have HB3 := Lib.hid (HB2.out.trans (hb.mono HB2.out.size))
    have HO3 := Lib.hid (ho.mono (B' := w.heap.size) HB2.out.size)
    rw [← HQ.out] at HO3 ⊢
    clear ho hb
    go_wp2
    go_ret2
    exact ⟨_, rfl, HO3.out, HB3.out⟩
  · have HG := Lib.hid hg
    have HQ := Lib.hid (show antR n lg = holeR 0 [] 2 2 5 by unfold antR; rw [if_neg hg]; exact (holeR_none 0 [] 2 2 5 (fun h => nonG0 h.1)).symm)
    clear hg
    go_enter Try.func32, Try.ntmps32
    go_wp2_with fail
    refine (specComplement_no n _ lg _ (HI.out.alloc _) HG.out).mono ?_
    rintro e w1 ⟨v1, rfl, ho, hb⟩
    obtain ⟨a1, cap1, rfl, -, -⟩ := ho.ints.form
    have cB : Below w.heap.size w w1 := ((Below.refl _ w).alloc (Nat.le_refl _) _).trans (hb.mono (B' := w.heap.size) (by simp))
    have HN := Lib.hid (show antR n lg = none by rw [HQ.out]; exact holeR_none 0 [] 2 2 5 (fun h => nonG0 h.1))
    have hz := cB.size
    have HE := Lib.hid (OwnI.lit0 (w1.alloc (.cells #[.int .i64 0, .slice a1 0 cap1] 28)) w.heap.size (by simp; omega))
    have HCB := Lib.hid cB
    clear ho hb cB
    go_wp2
    go_ret2
    exact ⟨_, by rw [HN.out]; rfl, by rw [HN.out]; show OwnI _ _ _ []; simpa using HE.out, (HCB.out.alloc hz _).alloc (by simp; omega) _⟩

set_option maxHeartbeats 4000000 in
set_option maxRecDepth 100000 in
theorem implPerfect (n : Int) (v : Value) (lg : List Int) (w : World) (h : Ints w v lg) :
    Calls Try.prog 35 #[.agg #[.int .i64 n, v]] w (GetsLB w.heap.size w (perfR n lg)) := by
  obtain ⟨a, cap, rfl, -, -⟩ := h.form
  have HI := Lib.hid h
  clear h
  have HA := argG' (T := 28) (n := n) HI.out
  go_enter Try.func35, Try.ntmps35
  go_wp2_with fail
  refine (implOdd n _ lg _ (HI.out.alloc _)).mono ?_
  rintro e w1 ⟨v1, rfl, ho, hb⟩
  obtain ⟨c0, c1, cI, cB, hz⟩ := HA.out _ (hb.mono (by simp))
  have HB := Lib.hid cB
  have HI1 := Lib.hid cI
  have HO := Lib.hid (ho.mono (B' := w.heap.size) (by simp))
  clear hb ho cI cB hz
  cases hF : holeR n lg 2 2 5 with
  | some y =>
    have b0 : outS (some y) = true := rfl
    rw [hF] at HO
    have HN := Lib.hid (show perfR n lg = some y by unfold perfR; rw [hF])
    clear hF
    go_wp2
    go_ret2
    exact ⟨_, by rw [HN.out]; rfl, by rw [HN.out]; exact HO.out, HB.out⟩
  | none =>
    have b0 : outS (none : Option (List Int)) = false := rfl
    have HN := Lib.hid (show perfR n lg = antR n lg by unfold perfR; rw [hF])
    clear hF HO
    go_wp2_with fail
    refine (implAnti n _ lg _ HI1.out).mono ?_
    rintro e w2 ⟨v2, rfl, ho, hb⟩
    have HB2 := Lib.hid (HB.out.trans (hb.mono HB.out.size))
    have HO2 := Lib.hid (ho.mono (B' := w.heap.size) HB.out.size)
    rw [← HN.out] at HO2 ⊢
    clear hb ho c0 c1
    go_wp2
    go_ret2
    exact ⟨_, rfl, HO2.out, HB2.out⟩

set_option maxHeartbeats 4000000 in
set_option maxRecDepth 100000 in
theorem specPerfect (n : Int) (v : Value) (lg : List Int) (w : World) (h : Ints w v lg) :
    Calls Try.prog 34 #[.agg #[.int .i64 n, v]] w (GetsLB w.heap.size w (perfR n lg)) := by
  obtain ⟨a, cap, rfl, -, -⟩ := h.form
  have HI := Lib.hid h
  clear h
  have HA := argG' (T := 28) (n := n) HI.out
  go_enter Try.func34, Try.ntmps34
  go_wp2_with fail
  refine (specOdd n _ lg _ (HI.out.alloc _)).mono ?_
  rintro e w1 ⟨v1, rfl, ho, hb⟩
  obtain ⟨c0, c1, cI, cB, hz⟩ := HA.out _ (hb.mono (by simp))
  have HB := Lib.hid cB
  have HI1 := Lib.hid cI
  have HO := Lib.hid (ho.mono (B' := w.heap.size) (by simp))
  clear hb ho cI cB hz
  cases hF : holeR n lg 2 2 5 with
  | some y =>
    have b0 : outS (some y) = true := rfl
    rw [hF] at HO
    have HN := Lib.hid (show perfR n lg = some y by unfold perfR; rw [hF])
    clear hF
    go_wp2
    go_ret2
    exact ⟨_, by rw [HN.out]; rfl, by rw [HN.out]; exact HO.out, HB.out⟩
  | none =>
    have b0 : outS (none : Option (List Int)) = false := rfl
    have HN := Lib.hid (show perfR n lg = antR n lg by unfold perfR; rw [hF])
    clear hF HO
    go_wp2_with fail
    refine (specAnti n _ lg _ HI1.out).mono ?_
    rintro e w2 ⟨v2, rfl, ho, hb⟩
    have HB2 := Lib.hid (HB.out.trans (hb.mono HB.out.size))
    have HO2 := Lib.hid (ho.mono (B' := w.heap.size) HB.out.size)
    rw [← HN.out] at HO2 ⊢
    clear hb ho c0 c1
    go_wp2
    go_ret2
    exact ⟨_, rfl, HO2.out, HB2.out⟩

end Go.Proofs.Ytnlfoecdphhhdaa
