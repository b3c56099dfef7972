/- FindSun, StrongObstacle. -/
import Derived.Test.YtnlfoecdphhhdaaJ13
import Derived.Test.YtnlfoecdphhhdaaJ9
namespace Go.Proofs.Ytnlfoecdphhhdaa
set_option linter.unusedVariables false
set_option linter.unusedSimpArgs false
open Go.RowKit

set_option maxHeartbeats 4000000 in
set_option maxRecDepth 100000 in
theorem specSun (n : Int) (v : Value) (lg : List Int) (w : World) (h : Ints w v lg) :
    Calls Try.prog 40 #[.agg #[.int .i64 n, v]] w (GetsLB w.heap.size w (fwpR n lg sunP 6)) := by
  obtain ⟨a, cap, rfl, -, -⟩ := h.form
  have HI := Lib.hid h
  clear h
  have HA := argG' (T := 28) (n := n) HI.out
  go_enter Try.func40, Try.ntmps40
  go_wp2_with fail
  refine (specIsG_any n _ lg _ (HI.out.alloc _)).mono ?_
  rintro e w1 ⟨r, rfl, hr, hb⟩
  obtain ⟨c0, c1, cI, cB, hz⟩ := HA.out _ (hb.mono (by simp))
  have HB := Lib.hid cB
  have HI1 := Lib.hid cI
  have HR := Lib.hid hr
  have hz1 : w.heap.size ≤ w1.heap.size := cB.size
  have HE := Lib.hid (OwnI.lit0 w1 w.heap.size hz1)
  clear hb hr cI cB hz
  cases r with
  | false =>
    have HN := Lib.hid (show fwpR n lg sunP 6 = none by unfold fwpR; rw [if_neg (fun h => absurd (HR.out.2 h.1) (by decide))])
    go_wp2
    go_ret2
    exact ⟨_, by rw [HN.out]; rfl, by rw [HN.out]; exact HE.out, HB.out.alloc hz1 _⟩
  | true =>
    have HG := Lib.hid (HR.out.1 (by first | rfl | trivial))
    have HQ := Lib.hid (sun_found HG.out)
    have HIE := Lib.hid (HI1.out.alloc (.cells #[] 3))
    have hzB : w.heap.size ≤ (w1.alloc (.cells #[] 3)).heap.size := by simp; omega
    go_wp2_with fail
    refine (l22Search_is n _ lg HG.out w.heap.size 6 [] _ _ HIE.out HE.out hzB (by simp) (fun i hi => absurd hi (by simp))).mono ?_
    rintro e w3 ⟨v3, l3, rfl, ho, hor, hb⟩
    have HB3 := Lib.hid ((HB.out.alloc hz1 _).trans (hb.mono hzB))
    rw [← HQ.out] at hor ⊢
    have HL3 := Lib.hid (show l3 = outL (fwpR n lg sunP 6) by
      rcases hor with ⟨h, -⟩ | h
      · exact absurd h (by decide)
      · exact h)
    have HO := Lib.hid ho
    clear ho hor hb hzB
    go_wp2
    go_ret2
    exact ⟨_, rfl, by rw [← HL3.out]; exact HO.out, HB3.out⟩

/-- A hole, or else a sun. -/
def strR (n : Int) (lg : List Int) : Option (List Int) :=
  match holeR n lg 1 4 4 with
  | some y => some y
  | none => fwpR n lg sunP 6

theorem strR_len (n : Int) (lg : List Int) : (outL (strR n lg)).length ≤ 7 := by
  have h := holeR_len n lg 1 4 4
  unfold strR
  cases hF : holeR n lg 1 4 4 with
  | some y => rw [hF] at h; exact h
  | none => exact fwp_len n lg sunP 6

set_option maxHeartbeats 4000000 in
set_option maxRecDepth 100000 in
theorem implStrong (n : Int) (v : Value) (lg : List Int) (w : World) (h : Ints w v lg) :
    Calls Try.prog 45 #[.agg #[.int .i64 n, v]] w (GetsLB w.heap.size w (strR n lg)) := by
  obtain ⟨a, cap, rfl, -, -⟩ := h.form
  have HI := Lib.hid h
  clear h
  have HA := argG' (T := 28) (n := n) HI.out
  go_enter Try.func45, Try.ntmps45
  go_wp2_with fail
  refine (implHole n _ lg _ (HI.out.alloc _)).mono ?_
  rintro e w1 ⟨v1, rfl, ho, hb⟩
  obtain ⟨c0, c1, cI, cB, hz⟩ := HA.out _ (hb.mono (by simp))
  have HB := Lib.hid cB
  have HI1 := Lib.hid cI
  have HO := Lib.hid (ho.mono (B' := w.heap.size) (by simp))
  clear hb ho cI cB hz
  cases hF : holeR n lg 1 4 4 with
  | some y =>
    have b0 : outS (some y) = true := rfl
    rw [hF] at HO
    have HN := Lib.hid (show strR n lg = some y by unfold strR; rw [hF])
    clear hF
    go_wp2
    go_ret2
    exact ⟨_, by rw [HN.out]; rfl, by rw [HN.out]; exact HO.out, HB.out⟩
  | none =>
    have b0 : outS (none : Option (List Int)) = false := rfl
    have HN := Lib.hid (show strR n lg = fwpR n lg sunP 6 by unfold strR; rw [hF])
    clear hF HO
    go_wp2_with fail
    refine (implSun n _ lg _ HI1.out).mono ?_
    rintro e w2 ⟨v2, rfl, ho, hb⟩
    have HB2 := Lib.hid (HB.out.trans (hb.mono HB.out.size))
    have HO2 := Lib.hid (ho.mono (B' := w.heap.size) HB.out.size)
    rw [← HN.out] at HO2 ⊢
    clear hb ho c0 c1
    go_wp2
    go_ret2
    exact ⟨_, rfl, HO2.out, HB2.out⟩

set_option maxHeartbeats 4000000 in
set_option maxRecDepth 100000 in
theorem specStrong (n : Int) (v : Value) (lg : List Int) (w : World) (h : Ints w v lg) :
    Calls Try.prog 44 #[.agg #[.int .i64 n, v]] w (GetsLB w.heap.size w (strR n lg)) := by
  obtain ⟨a, cap, rfl, -, -⟩ := h.form
  have HI := Lib.hid h
  clear h
  have HA := argG' (T := 28) (n := n) HI.out
  go_enter Try.func44, Try.ntmps44
  go_wp2_with fail
  refine (specHole n _ lg _ (HI.out.alloc _)).mono ?_
  rintro e w1 ⟨v1, rfl, ho, hb⟩
  obtain ⟨c0, c1, cI, cB, hz⟩ := HA.out _ (hb.mono (by simp))
  have HB := Lib.hid cB
  have HI1 := Lib.hid cI
  have HO := Lib.hid (ho.mono (B' := w.heap.size) (by simp))
  clear hb ho cI cB hz
  cases hF : holeR n lg 1 4 4 with
  | some y =>
    have b0 : outS (some y) = true := rfl
    rw [hF] at HO
    have HN := Lib.hid (show strR n lg = some y by unfold strR; rw [hF])
    clear hF
    go_wp2
    go_ret2
    exact ⟨_, by rw [HN.out]; rfl, by rw [HN.out]; exact HO.out, HB.out⟩
  | none =>
    have b0 : outS (none : Option (List Int)) = false := rfl
    have HN := Lib.hid (show strR n lg = fwpR n lg sunP 6 by unfold strR; rw [hF])
    clear hF HO
    go_wp2_with fail
    refine (specSun n _ lg _ HI1.out).mono ?_
    rintro e w2 ⟨v2, rfl, ho, hb⟩
    have HB2 := Lib.hid (HB.out.trans (hb.mono HB.out.size))
    have HO2 := Lib.hid (ho.mono (B' := w.heap.size) HB.out.size)
    rw [← HN.out] at HO2 ⊢
    clear hb ho c0 c1
    go_wp2
    go_ret2
    exact ⟨_, rfl, HO2.out, HB2.out⟩

end Go.Proofs.Ytnlfoecdphhhdaa
