/- IsSplitObstacle, IsThresholdObstacle. -/
import Derived.Test.YtbmpljclplddeabP2
import Derived.Test.YtbmpljclplddeabP3
import Derived.Test.YtbmpljclplddeabP5
import Derived.Test.YtbmpljclplddeabP6
namespace Go.Proofs.Ytbmpljclplddeab
set_option linter.unusedVariables false
set_option linter.unusedSimpArgs false
open Go.RowKit

def splitObP (n : Int) (lg l : List Int) : Prop := (l.length = 4 ∧ HasPat n lg l twoP) ∨ (l.length ≤ 5 ∧ 4 ≤ l.length ∧ HasPat n lg l (holeP l.length))

instance (n : Int) (lg l : List Int) : Decidable (splitObP n lg l) := by unfold splitObP; infer_instance

def thrObP (n : Int) (lg l : List Int) : Prop := l.length = 4 ∧ ((l.length = 4 ∧ HasPat n lg l twoP) ∨ (4 ≤ l.length ∧ HasPat n lg l (holeP l.length)) ∨ (0 < l.length ∧ HasPat n lg l pathP))

instance (n : Int) (lg l : List Int) : Decidable (thrObP n lg l) := by unfold thrObP; infer_instance

set_option maxHeartbeats 4000000 in
set_option maxRecDepth 100000 in
theorem specIsThresholdObstacle (n : Int) (v vl : Value) (lg l : List Int) (w : World) (h : Ints w v lg) (hl : Ints w vl l) (hlen : l.length ≤ 1048576) :
    Calls Try.prog 73 #[.agg #[.int .i64 n, v], vl] w (SaysB (thrObP n lg l) w) := by
  obtain ⟨a, cap, rfl, -, -⟩ := h.form
  obtain ⟨al, capl, rfl, -, hml⟩ := hl.form
  have HA := argG' (T := 33) (n := n) h
  have HI := Lib.hid h
  have HL := Lib.hid hl
  unfold maxLen at hml
  clear h hl
  by_cases hc : l.length = 4
  · have d0 : ((l.length : Int) == 4) = true := by simp; omega
    have HC := Lib.hid hc
    clear hc
    go_enter Try.func73, Try.ntmps73
    go_wp2_with fail
    refine (specIsTwoEdges n _ _ lg l _ (HI.out.alloc _) (HL.out.alloc _) hlen).mono ?_
    rintro e w1 ⟨r, rfl, hr, hb⟩
    have HR1 := Lib.hid hr
    have HB1 := Lib.hid (hb.mono (B' := w.heap.size + 1) (by simp))
    clear hb hr
    obtain ⟨c0, c1, cI, cB, hz⟩ := HA.out _ HB1.out
    have HCI1 := Lib.hid cI
    have HCB1 := Lib.hid cB
    clear cI cB
    clear d0
    cases r with
    | true =>
      have HT := Lib.hid (HR1.out.1 rfl)
      go_wp2
      go_ret
      exact SaysB.yes ⟨HC.out, .inl HT.out⟩ HCB1.out
    | false =>
      have HN := Lib.hid (show ¬ (l.length = 4 ∧ HasPat n lg l twoP) from fun h => absurd (HR1.out.2 h) (by decide))
      go_wp2_with fail
      refine (specIsHole n _ _ lg l _ HCI1.out (HL.out.on HCB1.out) hlen).mono ?_
      rintro e w2 ⟨r, rfl, hr, hb⟩
      have HR2 := Lib.hid hr
      have HB2 := Lib.hid (HB1.out.trans (hb.mono hz))
      clear hz c0 c1
      clear hb hr
      obtain ⟨c0, c1, cI, cB, hz⟩ := HA.out _ HB2.out
      have HCI2 := Lib.hid cI
      have HCB2 := Lib.hid cB
      clear cI cB
      cases r with
      | true =>
        have HT := Lib.hid (HR2.out.1 rfl)
        go_wp2
        go_ret
        exact SaysB.yes ⟨HC.out, .inr (.inl HT.out)⟩ HCB2.out
      | false =>
        have HN2 := Lib.hid (show ¬ (4 ≤ l.length ∧ HasPat n lg l (holeP l.length)) from fun h => absurd (HR2.out.2 h) (by decide))
        go_wp2_with fail
        refine (specIsInducedPath n _ _ lg l _ HCI2.out (HL.out.on HCB2.out) hlen).mono ?_
        rintro e w3 ⟨r, rfl, hr, hb⟩
        have HR3 := Lib.hid hr
        have HB3 := Lib.hid (HB2.out.trans (hb.mono hz))
        clear hz c0 c1
        clear hb hr
        obtain ⟨c0, c1, cI, cB, hz⟩ := HA.out _ HB3.out
        have HCI3 := Lib.hid cI
        have HCB3 := Lib.hid cB
        clear cI cB
        go_wp2
        go_ret
        have hr := HR3.out
        exact ⟨r, rfl, ⟨fun h => ⟨HC.out, .inr (.inr (hr.1 h))⟩, fun h => h.2.elim (fun h => absurd h HN.out) fun h => h.elim (fun h => absurd h HN2.out) hr.2⟩, HCB3.out⟩
  · have d0 : ((l.length : Int) == 4) = false := by simp; omega
    have HC := Lib.hid hc
    clear hc
    go_enter Try.func73, Try.ntmps73
    go_wp2
    go_ret
    exact SaysB.no (fun h => HC.out h.1) (HA.out _ (Below.refl _ _)).2.2.2.1

end Go.Proofs.Ytbmpljclplddeab
