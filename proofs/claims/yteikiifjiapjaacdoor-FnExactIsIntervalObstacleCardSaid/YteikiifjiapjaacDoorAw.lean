/- IsIntervalObstacle, IsProperObstacle. -/
import Derived.Test.YteikiifjiapjaacDoorAv
import Derived.Test.YteikiifjiapjaacDoorP2
import Derived.Test.YteikiifjiapjaacDoorP4
import Derived.Test.YteikiifjiapjaacDoorP5
import Derived.BigRegion
namespace Go.Proofs.YteikiifjiapjaacDoor
set_option linter.unusedVariables false
set_option linter.unusedSimpArgs false
open Go.RowKit

/-- A hole, or an asteroidal triple. -/
def intOb (n : Int) (lg l : List Int) : Bool := decide (4 ≤ l.length ∧ HasPat n lg l (holeP l.length)) || (decide (l.length = 3) && tripB n lg (nth l 0) (nth l 1) (nth l 2))

def propOb (n : Int) (lg l : List Int) : Bool := decide (l.length = 4 ∧ HasPat n lg l clawP) || intOb n lg l

set_option maxHeartbeats 4000000 in
set_option maxRecDepth 100000 in
theorem implIntOb (n : Int) (v vl : Value) (lg l : List Int) (w : World) (h : Ints w v lg) (hl : Ints w vl l) (hlen : l.length ≤ 1048576) (ht : TabT w) :
    Calls Tryd.prog 43 #[.agg #[.int .i64 n, v], vl] w (fun e w' => e = .returned (.bool (intOb n lg l)) ∧ Below w.heap.size w w') := by
  obtain ⟨a, cap, rfl, -, -⟩ := h.form
  obtain ⟨al, capl, rfl, -, hml⟩ := hl.form
  have HA := argG' (T := 26) (n := n) h
  have HI := Lib.hid h
  have HL := Lib.hid hl
  have HT := Lib.hid ht
  unfold maxLen at hml
  obtain ⟨r, hr⟩ : ∃ r, r = intOb n lg l := ⟨_, rfl⟩
  have HR := Lib.hid hr
  rw [← hr]
  obtain ⟨W0, hW0⟩ : ∃ W0, W0 = (w.alloc (.cells #[.int .i64 n, .slice a lg.length cap] 26)) := ⟨_, rfl⟩
  have HBX : Hid (∀ X : Since W0, Below w.heap.size w X.val) := fun X => ((Below.refl _ w).alloc (Nat.le_refl _) _).trans (since_below hW0 (by simp) X)
  have HXG : Hid (∀ X : Since W0, ArgG 26 w n (.slice a lg.length cap) lg X.val) := fun X => HA.out _ (since_below hW0 (by simp) X)
  have HXI : Hid (∀ X : Since W0, Ints X.val (.slice a lg.length cap) lg) := fun X => (HXG.out X).2.2.1
  have HXL : Hid (∀ X : Since W0, Ints X.val (.slice al l.length capl) l) := fun X => HL.out.on (HBX.out X)
  have hx0 : ∀ X : Since W0, X.val.cell? ⟨w.heap.size, 0, none⟩ = some (.int .i64 n) := fun X => (HXG.out X).1
  have hx1 : ∀ X : Since W0, X.val.cell? ⟨w.heap.size, 1, none⟩ = some (.slice a lg.length cap) := fun X => (HXG.out X).2.1
  obtain ⟨b, hbb⟩ : ∃ b, b = decide (4 ≤ l.length ∧ HasPat n lg l (holeP l.length)) := ⟨_, rfl⟩
  have HBB := Lib.hid (show r = (b || (decide (l.length = 3) && tripB n lg (nth l 0) (nth l 1) (nth l 2))) by rw [hr, hbb]; rfl)
  have HH : Hid (∀ X : Since W0, Calls Tryd.prog 87 #[.agg #[.int .i64 n, .slice a lg.length cap], .slice al l.length capl] X.val fun e w' => e = .returned (.bool b) ∧ Below X.val.heap.size X.val w') := fun X => by
    rw [hbb]
    exact (implIsHole n _ _ lg l _ (HXI.out X) (HXL.out X) hlen).mono fun e w' hs => hs.dec
  have HTR : Hid (∀ t, t = tripB n lg (nth l 0) (nth l 1) (nth l 2) → ∀ X : Since W0, Calls Tryd.prog 41 #[.agg #[.int .i64 n, .slice a lg.length cap], .int .i64 (nth l 0), .int .i64 (nth l 1), .int .i64 (nth l 2)] X.val fun e w' => e = .returned (.bool t) ∧ Below X.val.heap.size X.val w') := fun t ht X => by
    rw [ht]
    exact implTrip n _ lg (nth l 0) (nth l 1) (nth l 2) _ (HXI.out X) (HT.out.on (HBX.out X))
  clear h hl hr hbb ht
  go_enter Tryd.func43, Tryd.ntmps43
  go_wp2
  rw [← hW0]
  clear hW0
  refine wp_region_since (by kernel_rfl) (by kernel_rfl) ?_
  cases b with
  | true =>
      have HN := Lib.hid (show r = true by rw [HBB.out]; rfl)
      repeat (go_big_quiet_step (with_reducible exact since_call (HH.out _)))
      refine wpQuiet_nil ?_
      intro X
      have HW := Lib.hid (HBX.out X)
      clear hx0 hx1
      go_wp2
      go_ret
      exact ⟨by rw [HN.out] <;> rfl, HW.out⟩
  | false =>
    by_cases h3 : l.length = 3
    · obtain ⟨bl, offl, cap9, hv9, -, -, hbl, hcl⟩ := HL.out.pos (by omega)
      simp only [Value.slice.injEq] at hv9
      obtain ⟨rfl, -, rfl⟩ := hv9
      obtain ⟨t, ht⟩ : ∃ t, t = tripB n lg (nth l 0) (nth l 1) (nth l 2) := ⟨_, rfl⟩
      have HT3 := Lib.hid (HTR.out t ht)
      have HN := Lib.hid (show r = t by rw [HBB.out, decide_eq_true h3, ht]; rfl)
      obtain ⟨x0, e0⟩ : ∃ x, x = nth l 0 := ⟨_, rfl⟩
      obtain ⟨x1, e1⟩ : ∃ x, x = nth l 1 := ⟨_, rfl⟩
      obtain ⟨x2, e2⟩ : ∃ x, x = nth l 2 := ⟨_, rfl⟩
      rw [← e0, ← e1, ← e2] at HT3
      have hx2 : ∀ X : Since W0, X.val.cell? ⟨bl, offl + 0, none⟩ = some (.int .i64 x0) := fun X => by rw [(HBX.out X).cell (p := ⟨bl, offl + 0, none⟩) hbl, hcl 0 (by omega), e0]
      have hx3 : ∀ X : Since W0, X.val.cell? ⟨bl, offl + 1, none⟩ = some (.int .i64 x1) := fun X => by rw [(HBX.out X).cell (p := ⟨bl, offl + 1, none⟩) hbl, hcl 1 (by omega), e1]
      have hx4 : ∀ X : Since W0, X.val.cell? ⟨bl, offl + 2, none⟩ = some (.int .i64 x2) := fun X => by rw [(HBX.out X).cell (p := ⟨bl, offl + 2, none⟩) hbl, hcl 2 (by omega), e2]
      have hx2' : ∀ X : Since W0, X.val.cell? ⟨bl, offl, none⟩ = some (.int .i64 x0) := hx2
      have q3 : ((l.length : Int) == 3) = true := by rw [beq_iff_eq]; omega
      have g0 : 0 < l.length := by omega
      have g1 : 1 < l.length := by omega
      have g2 : 2 < l.length := by omega
      clear h3 hcl ht e0 e1 e2
      repeat (go_big_quiet_step (first | with_reducible exact since_call (HH.out _) | with_reducible exact since_call (HT3.out _)))
      refine wpQuiet_nil ?_
      intro X
      have HW := Lib.hid (HBX.out X)
      clear hx0 hx1 hx2 hx2' hx3 hx4
      go_wp2
      go_ret
      exact ⟨by rw [HN.out] <;> rfl, HW.out⟩
    · have q3 : ((l.length : Int) == 3) = false := by rw [beq_eq_false_iff_ne]; omega
      have HN := Lib.hid (show r = false by rw [HBB.out, decide_eq_false h3]; rfl)
      clear h3
      repeat (go_big_quiet_step (with_reducible exact since_call (HH.out _)))
      refine wpQuiet_nil ?_
      intro X
      have HW := Lib.hid (HBX.out X)
      clear hx0 hx1
      go_wp2
      go_ret
      exact ⟨by rw [HN.out] <;> rfl, HW.out⟩

set_option maxHeartbeats 2000000 in
set_option maxRecDepth 100000 in
theorem implPropOb (n : Int) (v vl : Value) (lg l : List Int) (w : World) (h : Ints w v lg) (hl : Ints w vl l) (hlen : l.length ≤ 1048576) (ht : TabT w) :
    Calls Tryd.prog 45 #[.agg #[.int .i64 n, v], vl] w (fun e w' => e = .returned (.bool (propOb n lg l)) ∧ Below w.heap.size w w') := by
  obtain ⟨a, cap, rfl, -, -⟩ := h.form
  obtain ⟨al, capl, rfl, -, hml⟩ := hl.form
  have HA := argG' (T := 26) (n := n) h
  have HI := Lib.hid h
  have HL := Lib.hid hl
  have HT := Lib.hid ht
  unfold maxLen at hml
  obtain ⟨r, hr⟩ : ∃ r, r = propOb n lg l := ⟨_, rfl⟩
  obtain ⟨b, hbb⟩ : ∃ b, b = decide (l.length = 4 ∧ HasPat n lg l clawP) := ⟨_, rfl⟩
  have HBB := Lib.hid (show r = (b || intOb n lg l) by rw [hr, hbb]; rfl)
  have HB9 := Lib.hid hbb
  rw [← hr]
  clear h hl hr hbb ht
  go_enter Tryd.func45, Tryd.ntmps45
  go_wp2_with fail
  refine (implIsClaw n _ _ lg l _ (HI.out.alloc _) (HL.out.alloc _) hlen).mono ?_
  rintro e w1 hs1
  obtain ⟨rfl, hb⟩ := hs1.dec
  rw [← HB9.out]
  have HB1 := Lib.hid (hb.mono (B' := w.heap.size + 1) (by simp))
  clear hs1 hb
  obtain ⟨c0, c1, cI, cB, hz⟩ := HA.out _ HB1.out
  have HCI1 := Lib.hid cI
  have HCB1 := Lib.hid cB
  clear cI cB
  cases b with
  | true =>
    have HN := Lib.hid (show r = true by rw [HBB.out]; rfl)
    go_wp2
    go_ret
    exact ⟨by rw [HN.out] <;> rfl, HCB1.out⟩
  | false =>
    obtain ⟨q, hq⟩ : ∃ q, q = intOb n lg l := ⟨_, rfl⟩
    have HQ := Lib.hid hq
    have HN := Lib.hid (show r = q by rw [HBB.out, hq]; rfl)
    clear hq
    go_wp2_with fail
    refine (implIntOb n _ _ lg l _ HCI1.out (HL.out.on HCB1.out) hlen (HT.out.on HCB1.out)).mono ?_
    rintro e w2 ⟨rfl, hb⟩
    rw [← HQ.out]
    have HW := Lib.hid (HCB1.out.trans (hb.mono HCB1.out.size))
    clear hb c0 c1 hz
    go_wp2
    go_ret
    exact ⟨by rw [HN.out] <;> rfl, HW.out⟩

set_option maxHeartbeats 4000000 in
set_option maxRecDepth 100000 in
theorem specIntOb (n : Int) (v vl : Value) (lg l : List Int) (w : World) (h : Ints w v lg) (hl : Ints w vl l) (hlen : l.length ≤ 1048576) :
    Calls Tryd.prog 42 #[.agg #[.int .i64 n, v], vl] w (fun e w' => e = .returned (.bool (intOb n lg l)) ∧ Below w.heap.size w w') := by
  obtain ⟨a, cap, rfl, -, -⟩ := h.form
  obtain ⟨al, capl, rfl, -, hml⟩ := hl.form
  have HA := argG' (T := 26) (n := n) h
  have HI := Lib.hid h
  have HL := Lib.hid hl
  unfold maxLen at hml
  obtain ⟨r, hr⟩ : ∃ r, r = intOb n lg l := ⟨_, rfl⟩
  have HR := Lib.hid hr
  rw [← hr]
  obtain ⟨W0, hW0⟩ : ∃ W0, W0 = (w.alloc (.cells #[.int .i64 n, .slice a lg.length cap] 26)) := ⟨_, rfl⟩
  have HBX : Hid (∀ X : Since W0, Below w.heap.size w X.val) := fun X => ((Below.refl _ w).alloc (Nat.le_refl _) _).trans (since_below hW0 (by simp) X)
  have HXG : Hid (∀ X : Since W0, ArgG 26 w n (.slice a lg.length cap) lg X.val) := fun X => HA.out _ (since_below hW0 (by simp) X)
  have HXI : Hid (∀ X : Since W0, Ints X.val (.slice a lg.length cap) lg) := fun X => (HXG.out X).2.2.1
  have HXL : Hid (∀ X : Since W0, Ints X.val (.slice al l.length capl) l) := fun X => HL.out.on (HBX.out X)
  have hx0 : ∀ X : Since W0, X.val.cell? ⟨w.heap.size, 0, none⟩ = some (.int .i64 n) := fun X => (HXG.out X).1
  have hx1 : ∀ X : Since W0, X.val.cell? ⟨w.heap.size, 1, none⟩ = some (.slice a lg.length cap) := fun X => (HXG.out X).2.1
  obtain ⟨b, hbb⟩ : ∃ b, b = decide (4 ≤ l.length ∧ HasPat n lg l (holeP l.length)) := ⟨_, rfl⟩
  have HBB := Lib.hid (show r = (b || (decide (l.length = 3) && tripB n lg (nth l 0) (nth l 1) (nth l 2))) by rw [hr, hbb]; rfl)
  have HH : Hid (∀ X : Since W0, Calls Tryd.prog 86 #[.agg #[.int .i64 n, .slice a lg.length cap], .slice al l.length capl] X.val fun e w' => e = .returned (.bool b) ∧ Below X.val.heap.size X.val w') := fun X => by
    rw [hbb]
    exact (specIsHole n _ _ lg l _ (HXI.out X) (HXL.out X) hlen).mono fun e w' hs => hs.dec
  have HTR : Hid (∀ t, t = tripB n lg (nth l 0) (nth l 1) (nth l 2) → ∀ X : Since W0, Calls Tryd.prog 40 #[.agg #[.int .i64 n, .slice a lg.length cap], .int .i64 (nth l 0), .int .i64 (nth l 1), .int .i64 (nth l 2)] X.val fun e w' => e = .returned (.bool t) ∧ Below X.val.heap.size X.val w') := fun t ht X => by
    rw [ht]
    exact specTrip n _ lg (nth l 0) (nth l 1) (nth l 2) _ (HXI.out X)
  clear h hl hr hbb
  go_enter Tryd.func42, Tryd.ntmps42
  go_wp2
  rw [← hW0]
  clear hW0
  refine wp_region_since (by kernel_rfl) (by kernel_rfl) ?_
  cases b with
  | true =>
      have HN := Lib.hid (show r = true by rw [HBB.out]; rfl)
      repeat (go_big_quiet_step (with_reducible exact since_call (HH.out _)))
      refine wpQuiet_nil ?_
      intro X
      have HW := Lib.hid (HBX.out X)
      clear hx0 hx1
      go_wp2
      go_ret
      exact ⟨by rw [HN.out] <;> rfl, HW.out⟩
  | false =>
    by_cases h3 : l.length = 3
    · obtain ⟨bl, offl, cap9, hv9, -, -, hbl, hcl⟩ := HL.out.pos (by omega)
      simp only [Value.slice.injEq] at hv9
      obtain ⟨rfl, -, rfl⟩ := hv9
      obtain ⟨t, ht⟩ : ∃ t, t = tripB n lg (nth l 0) (nth l 1) (nth l 2) := ⟨_, rfl⟩
      have HT3 := Lib.hid (HTR.out t ht)
      have HN := Lib.hid (show r = t by rw [HBB.out, decide_eq_true h3, ht]; rfl)
      obtain ⟨x0, e0⟩ : ∃ x, x = nth l 0 := ⟨_, rfl⟩
      obtain ⟨x1, e1⟩ : ∃ x, x = nth l 1 := ⟨_, rfl⟩
      obtain ⟨x2, e2⟩ : ∃ x, x = nth l 2 := ⟨_, rfl⟩
      rw [← e0, ← e1, ← e2] at HT3
      have hx2 : ∀ X : Since W0, X.val.cell? ⟨bl, offl + 0, none⟩ = some (.int .i64 x0) := fun X => by rw [(HBX.out X).cell (p := ⟨bl, offl + 0, none⟩) hbl, hcl 0 (by omega), e0]
      have hx3 : ∀ X : Since W0, X.val.cell? ⟨bl, offl + 1, none⟩ = some (.int .i64 x1) := fun X => by rw [(HBX.out X).cell (p := ⟨bl, offl + 1, none⟩) hbl, hcl 1 (by omega), e1]
      have hx4 : ∀ X : Since W0, X.val.cell? ⟨bl, offl + 2, none⟩ = some (.int .i64 x2) := fun X => by rw [(HBX.out X).cell (p := ⟨bl, offl + 2, none⟩) hbl, hcl 2 (by omega), e2]
      have hx2' : ∀ X : Since W0, X.val.cell? ⟨bl, offl, none⟩ = some (.int .i64 x0) := hx2
      have q3 : ((l.length : Int) == 3) = true := by rw [beq_iff_eq]; omega
      have g0 : 0 < l.length := by omega
      have g1 : 1 < l.length := by omega
      have g2 : 2 < l.length := by omega
      clear h3 hcl ht e0 e1 e2
      repeat (go_big_quiet_step (first | with_reducible exact since_call (HH.out _) | with_reducible exact since_call (HT3.out _)))
      refine wpQuiet_nil ?_
      intro X
      have HW := Lib.hid (HBX.out X)
      clear hx0 hx1 hx2 hx2' hx3 hx4
      go_wp2
      go_ret
      exact ⟨by rw [HN.out] <;> rfl, HW.out⟩
    · have q3 : ((l.length : Int) == 3) = false := by rw [beq_eq_false_iff_ne]; omega
      have HN := Lib.hid (show r = false by rw [HBB.out, decide_eq_false h3]; rfl)
      clear h3
      repeat (go_big_quiet_step (with_reducible exact since_call (HH.out _)))
      refine wpQuiet_nil ?_
      intro X
      have HW := Lib.hid (HBX.out X)
      clear hx0 hx1
      go_wp2
      go_ret
      exact ⟨by rw [HN.out] <;> rfl, HW.out⟩

set_option maxHeartbeats 2000000 in
set_option maxRecDepth 100000 in
theorem specPropOb (n : Int) (v vl : Value) (lg l : List Int) (w : World) (h : Ints w v lg) (hl : Ints w vl l) (hlen : l.length ≤ 1048576) :
    Calls Tryd.prog 44 #[.agg #[.int .i64 n, v], vl] w (fun e w' => e = .returned (.bool (propOb n lg l)) ∧ Below w.heap.size w w') := by
  obtain ⟨a, cap, rfl, -, -⟩ := h.form
  obtain ⟨al, capl, rfl, -, hml⟩ := hl.form
  have HA := argG' (T := 26) (n := n) h
  have HI := Lib.hid h
  have HL := Lib.hid hl
  unfold maxLen at hml
  obtain ⟨r, hr⟩ : ∃ r, r = propOb n lg l := ⟨_, rfl⟩
  obtain ⟨b, hbb⟩ : ∃ b, b = decide (l.length = 4 ∧ HasPat n lg l clawP) := ⟨_, rfl⟩
  have HBB := Lib.hid (show r = (b || intOb n lg l) by rw [hr, hbb]; rfl)
  have HB9 := Lib.hid hbb
  rw [← hr]
  clear h hl hr hbb
  go_enter Tryd.func44, Tryd.ntmps44
  go_wp2_with fail
  refine (specIsClaw n _ _ lg l _ (HI.out.alloc _) (HL.out.alloc _) hlen).mono ?_
  rintro e w1 hs1
  obtain ⟨rfl, hb⟩ := hs1.dec
  rw [← HB9.out]
  have HB1 := Lib.hid (hb.mono (B' := w.heap.size + 1) (by simp))
  clear hs1 hb
  obtain ⟨c0, c1, cI, cB, hz⟩ := HA.out _ HB1.out
  have HCI1 := Lib.hid cI
  have HCB1 := Lib.hid cB
  clear cI cB
  cases b with
  | true =>
    have HN := Lib.hid (show r = true by rw [HBB.out]; rfl)
    go_wp2
    go_ret
    exact ⟨by rw [HN.out] <;> rfl, HCB1.out⟩
  | false =>
    obtain ⟨q, hq⟩ : ∃ q, q = intOb n lg l := ⟨_, rfl⟩
    have HQ := Lib.hid hq
    have HN := Lib.hid (show r = q by rw [HBB.out, hq]; rfl)
    clear hq
    go_wp2_with fail
    refine (specIntOb n _ _ lg l _ HCI1.out (HL.out.on HCB1.out) hlen).mono ?_
    rintro e w2 ⟨rfl, hb⟩
    rw [← HQ.out]
    have HW := Lib.hid (HCB1.out.trans (hb.mono HCB1.out.size))
    clear hb c0 c1 hz
    go_wp2
    go_ret
    exact ⟨by rw [HN.out] <;> rfl, HW.out⟩

end Go.Proofs.YteikiifjiapjaacDoor
