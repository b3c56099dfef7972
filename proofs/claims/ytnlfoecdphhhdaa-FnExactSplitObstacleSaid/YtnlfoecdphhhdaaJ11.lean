/- SplitObstacle. -/
import Derived.Test.YtnlfoecdphhhdaaJ8
import Derived.Test.YtnlfoecdphhhdaaJ9
namespace Go.Proofs.Ytnlfoecdphhhdaa
set_option linter.unusedVariables false
set_option linter.unusedSimpArgs false
open Go.RowKit

/-- Two edges without any between them, or else a hole. -/
def sobsR (n : Int) (lg : List Int) : Option (List Int) :=
  match fwpR n lg twoP 4 with
  | some y => some y
  | none => holeR n lg 1 4 4

theorem sobsR_len (n : Int) (lg : List Int) : (outL (sobsR n lg)).length ≤ 7 := by
  have h := fwp_len n lg twoP 4
  unfold sobsR
  cases hF : fwpR n lg twoP 4 with
  | some y => rw [hF] at h; exact h
  | none => exact holeR_len n lg 1 4 4

set_option maxHeartbeats 4000000 in
set_option maxRecDepth 100000 in
theorem implSobs (n : Int) (v : Value) (lg : List Int) (w : World) (h : Ints w v lg) :
    Calls Try.prog 43 #[.agg #[.int .i64 n, v]] w (GetsLB w.heap.size w (sobsR n lg)) := by
  obtain ⟨a, cap, rfl, -, -⟩ := h.form
  have HI := Lib.hid h
  clear h
  have HA := argG' (T := 28) (n := n) HI.out
  go_enter Try.func43, Try.ntmps43
  go_wp2_with fail
  refine (implFindTwo n _ lg _ (HI.out.alloc _)).mono ?_
  rintro e w1 ⟨v1, rfl, ho, hb⟩
  obtain ⟨c0, c1, cI, cB, hz⟩ := HA.out _ (hb.mono (by simp))
  have HB := Lib.hid cB
  have HI1 := Lib.hid cI
  have HO := Lib.hid (ho.mono (B' := w.heap.size) (by simp))
  clear hb ho cI cB hz
  cases hF : fwpR n lg twoP 4 with
  | some y =>
    have b0 : outS (some y) = true := rfl
    rw [hF] at HO
    have HN := Lib.hid (show sobsR n lg = some y by unfold sobsR; rw [hF])
    clear hF
    go_wp2
    go_ret2
    exact ⟨_, by rw [HN.out]; rfl, by rw [HN.out]; exact HO.out, HB.out⟩
  | none =>
    have b0 : outS (none : Option (List Int)) = false := rfl
    have HN := Lib.hid (show sobsR n lg = holeR n lg 1 4 4 by unfold sobsR; rw [hF])
    clear hF HO
    go_wp2_with fail
    refine (implHole n _ lg _ HI1.out).mono ?_
    rintro e w2 ⟨v2, rfl, ho, hb⟩
    have HB2 := Lib.hid (HB.out.trans (hb.mono HB.out.size))
    have HO2 := Lib.hid (ho.mono (B' := w.heap.size) HB.out.size)
    rw [← HN.out] at HO2 ⊢
    clear hb ho c0 c1
    go_wp2
    go_ret2
    exact ⟨_, rfl, HO2.out, HB2.out⟩

set_option maxHeartbeats 4000000 in
set_option maxRecDepth 100000 in
theorem specSobs (n : Int) (v : Value) (lg : List Int) (w : World) (h : Ints w v lg) :
    Calls Try.prog 42 #[.agg #[.int .i64 n, v]] w (GetsLB w.heap.size w (sobsR n lg)) := by
  obtain ⟨a, cap, rfl, -, -⟩ := h.form
  have HI := Lib.hid h
  clear h
  have HA := argG' (T := 28) (n := n) HI.out
  go_enter Try.func42, Try.ntmps42
  go_wp2_with fail
  refine (specFindTwo n _ lg _ (HI.out.alloc _)).mono ?_
  rintro e w1 ⟨v1, rfl, ho, hb⟩
  obtain ⟨c0, c1, cI, cB, hz⟩ := HA.out _ (hb.mono (by simp))
  have HB := Lib.hid cB
  have HI1 := Lib.hid cI
  have HO := Lib.hid (ho.mono (B' := w.heap.size) (by simp))
  clear hb ho cI cB hz
  cases hF : fwpR n lg twoP 4 with
  | some y =>
    have b0 : outS (some y) = true := rfl
    rw [hF] at HO
    have HN := Lib.hid (show sobsR n lg = some y by unfold sobsR; rw [hF])
    clear hF
    go_wp2
    go_ret2
    exact ⟨_, by rw [HN.out]; rfl, by rw [HN.out]; exact HO.out, HB.out⟩
  | none =>
    have b0 : outS (none : Option (List Int)) = false := rfl
    have HN := Lib.hid (show sobsR n lg = holeR n lg 1 4 4 by unfold sobsR; rw [hF])
    clear hF HO
    go_wp2_with fail
    refine (specHole n _ lg _ HI1.out).mono ?_
    rintro e w2 ⟨v2, rfl, ho, hb⟩
    have HB2 := Lib.hid (HB.out.trans (hb.mono HB.out.size))
    have HO2 := Lib.hid (ho.mono (B' := w.heap.size) HB.out.size)
    rw [← HN.out] at HO2 ⊢
    clear hb ho c0 c1
    go_wp2
    go_ret2
    exact ⟨_, rfl, HO2.out, HB2.out⟩

end Go.Proofs.Ytnlfoecdphhhdaa
