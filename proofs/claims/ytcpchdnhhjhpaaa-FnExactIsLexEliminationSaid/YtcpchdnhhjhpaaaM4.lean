/- IsElimination. -/
import Derived.Test.YtcpchdnhhjhpaaaM3
import Derived.Test.YtcpchdnhhjhpaaaV4
import Derived.Test.YtcpchdnhhjhpaaaT1
namespace Go.Proofs.Ytcpchdnhhjhpaaa
set_option linter.unusedVariables false
set_option linter.unusedSimpArgs false
open Go.RowKit

/-- An order of elimination. -/
def ElimP (n : Int) (lg l : List Int) : Prop := OrdP n lg l ∧ ∀ v, v < lg.length → CliqueS n lg (laterR n lg l (v : Int))

instance (n : Int) (lg l : List Int) : Decidable (ElimP n lg l) := by unfold ElimP; infer_instance

theorem elim_at {n : Int} {lg l : List Int} (h : OrdP n lg l) : (∀ v, v < lg.length → CliqueS n lg (laterR n lg l (v : Int))) ↔ ∀ i, i < l.length → CliqueS n lg (laterR n lg l (nth l i)) := by
  refine ⟨fun hh i hi => ?_, fun hh v hv => ?_⟩
  · have := h.1.at hi
    rw [this.1]
    exact hh _ this.2.1
  · obtain ⟨i, hi, rfl⟩ := h.surj hv
    have := h.1.at hi
    rw [← this.1]
    exact hh i hi

set_option maxHeartbeats 4000000 in
set_option maxRecDepth 100000 in
theorem implElim (n : Int) (v vl : Value) (lg l : List Int) (w : World) (h : Ints w v lg) (hl : Ints w vl l) (hlen : l.length ≤ 1048576) :
    Calls Try.prog 79 #[.agg #[.int .i64 n, v], vl] w (SaysB (ElimP n lg l) w) := by
  obtain ⟨a, cap, rfl, -, -⟩ := h.form
  obtain ⟨al, capl, rfl, -, hml⟩ := hl.form
  have HA := argG' (T := 28) (n := n) h
  have HI := Lib.hid h
  have HL := Lib.hid hl
  unfold maxLen at hml
  clear h hl
  go_enter Try.func79, Try.ntmps79
  go_wp2_with fail
  refine (implIsOrder n _ _ lg l _ (HI.out.alloc _) (HL.out.alloc _) hlen).mono ?_
  rintro e w1 ⟨r, rfl, hr, hb⟩
  have HB := Lib.hid (hb.mono (B' := w.heap.size + 1) (by simp))
  have HR := Lib.hid hr
  clear hb hr
  obtain ⟨c0, c1, cI, cB, hz⟩ := HA.out _ HB.out
  have HCB := Lib.hid cB
  clear cI cB
  cases r with
  | false =>
    go_wp2
    go_ret
    exact SaysB.no (fun h => absurd (HR.out.2 h.1) (by decide)) HCB.out
  | true =>
    have HO := Lib.hid (HR.out.1 rfl)
    have HEL := Lib.hid (elim_at HO.out)
    go_wp2
    clear c0 c1 hz
    go_loopw [13] (fun i wr => ∃ k : Nat, k ≤ l.length ∧ i = .int .i64 k ∧ Hid (∀ i, i < k → CliqueS n lg (laterR n lg l (nth l i))) ∧ Below (w.heap.size + 1) (w.alloc (.cells #[.int .i64 n, .slice a lg.length cap] 28)) wr) (fun i _ => l.length - (intOf i).toNat)
    case atStart => exact ⟨0, by omega, rfl, fun i hi => absurd hi (by omega), HB.out⟩
    case round =>
      obtain ⟨k, hk, rfl, HJ, hbel⟩ := hrel
      have HBL := Lib.hid hbel
      clear hbel
      obtain ⟨-, -, -, cB, hz⟩ := HA.out _ HBL.out
      have HCB2 := Lib.hid cB
      clear cB
      by_cases hlt : k < l.length
      · have HL2 := Lib.hid (HL.out.on HCB2.out)
        obtain ⟨b2, off2, capl', hv, hc2, hmx2, hbk2, hcell2⟩ := HL2.out.pos (by omega)
        simp only [Value.slice.injEq] at hv
        obtain ⟨rfl, -, rfl⟩ := hv
        obtain ⟨x, hx⟩ : ∃ x, x = nth l k := ⟨_, rfl⟩
        have d1 := hcell2 k hlt
        rw [← hx] at d1
        have HXX := Lib.hid hx
        have HX : Hid (∀ X : Since wr, ArgG 28 w n (.slice a lg.length cap) lg X.val) := fun X => HA.out _ (HBL.out.trans (X.prop.mono hz))
        have hx0 : ∀ X : Since wr, X.val.cell? ⟨w.heap.size, 0, none⟩ = some (.int .i64 n) := fun X => (HX.out X).1
        have hx1 : ∀ X : Since wr, X.val.cell? ⟨w.heap.size, 1, none⟩ = some (.slice a lg.length cap) := fun X => (HX.out X).2.1
        obtain ⟨R, hR⟩ : ∃ R, R = laterR n lg l x := ⟨_, rfl⟩
        have HC1 : Hid (∀ X : Since wr, Calls Try.prog 107 #[.agg #[.int .i64 n, .slice a lg.length cap], .slice (some ⟨b2, off2, none⟩) l.length capl, .int .i64 x] X.val fun e w' => e = .returned (.int .i64 R) ∧ Below X.val.heap.size X.val w') := fun X => by rw [hR]; exact implLater n _ _ lg l x _ (HX.out X).2.2.1 (HL2.out.on X.prop) hlen
        have HRR := Lib.hid hR
        clear hcell2 hx hR
        go_wp2
        refine wp_region_since (by kernel_rfl) (by kernel_rfl) ?_
        by_cases hq : CliqueS n lg R
        · have HC2 : Hid (∀ X : Since wr, Calls Try.prog 127 #[.agg #[.int .i64 n, .slice a lg.length cap], .int .i64 R] X.val fun e w' => e = .returned (.bool true) ∧ Below X.val.heap.size X.val w') := fun X => (implClique n _ lg R _ (HX.out X).2.2.1).mono fun _ _ h => h.is_yes hq
          have HQ := Lib.hid hq
          clear hq
          repeat (go_big_quiet_step (first | exact since_call (HC1.out _) | exact since_call (HC2.out _)))
          refine wpQuiet_nil ?_
          intro X
          have HB3 := Lib.hid (HBL.out.trans (X.prop.mono hz))
          clear hx0 hx1
          go_wp2
          go_roundw
          case rel =>
            refine ⟨k + 1, by omega, by go_num, fun i hi => ?_, HB3.out⟩
            rcases Nat.lt_or_ge i k with h | h
            · exact HJ.out i h
            · obtain rfl : i = k := by omega
              rw [← HXX.out, ← HRR.out]
              exact HQ.out
          case measure => simp [intOf]; omega
        · have HC2 : Hid (∀ X : Since wr, Calls Try.prog 127 #[.agg #[.int .i64 n, .slice a lg.length cap], .int .i64 R] X.val fun e w' => e = .returned (.bool false) ∧ Below X.val.heap.size X.val w') := fun X => (implClique n _ lg R _ (HX.out X).2.2.1).mono fun _ _ h => h.is_no hq
          have HQ := Lib.hid hq
          clear hq
          repeat (go_big_quiet_step (first | exact since_call (HC1.out _) | exact since_call (HC2.out _)))
          refine wpQuiet_nil ?_
          intro X
          have HW := Lib.hid (HX.out X).2.2.2.1
          clear hx0 hx1
          go_wp2
          go_ret
          exact SaysB.no (fun h => HQ.out (by rw [HRR.out, HXX.out]; exact HEL.out.1 h.2 k hlt)) HW.out
      · obtain rfl : k = l.length := by omega
        go_wp2
        go_ret
        exact SaysB.yes ⟨HO.out, HEL.out.2 HJ.out⟩ HCB2.out

set_option maxHeartbeats 4000000 in
set_option maxRecDepth 100000 in
theorem specElim (n : Int) (v vl : Value) (lg l : List Int) (w : World) (h : Ints w v lg) (hl : Ints w vl l) (hlen : l.length ≤ 1048576) :
    Calls Try.prog 76 #[.agg #[.int .i64 n, v], vl] w (SaysB (ElimP n lg l) w) := by
  obtain ⟨a, cap, rfl, -, -⟩ := h.form
  obtain ⟨al, capl, rfl, -, hml⟩ := hl.form
  have HA := argG' (T := 28) (n := n) h
  have HI := Lib.hid h
  have HL := Lib.hid hl
  unfold maxLen at hml
  clear h hl
  go_enter Try.func76, Try.ntmps76
  go_wp2_with fail
  refine (specIsOrder n _ _ lg l _ (HI.out.alloc _) (HL.out.alloc _) hlen).mono ?_
  rintro e w1 ⟨r, rfl, hr, hb⟩
  have HB := Lib.hid (hb.mono (B' := w.heap.size + 1) (by simp))
  have HR := Lib.hid hr
  clear hb hr
  obtain ⟨c0, c1, cI, cB, hz⟩ := HA.out _ HB.out
  have HCB := Lib.hid cB
  clear cI cB
  cases r with
  | false =>
    go_wp2
    go_ret
    exact SaysB.no (fun h => absurd (HR.out.2 h.1) (by decide)) HCB.out
  | true =>
    have HO := Lib.hid (HR.out.1 (by first | rfl | trivial))
    obtain ⟨hll, hm7, hnl⟩ := HO.out.len
    have hle : (lg.length : Int) ≤ n := by omega
    have hge : n ≤ (lg.length : Int) := by omega
    clear hll hnl
    go_wp2
    clear c0 c1 hz
    go_loopw [5] (fun i wr => ∃ k : Nat, k ≤ lg.length ∧ i = .int .i64 k ∧ Hid (∀ v, v < k → CliqueS n lg (laterR n lg l (v : Int))) ∧ Below (w.heap.size + 1) (w.alloc (.cells #[.int .i64 n, .slice a lg.length cap] 28)) wr) (fun i _ => lg.length - (intOf i).toNat)
    case atStart => exact ⟨0, by omega, rfl, fun i hi => absurd hi (by omega), HB.out⟩
    case round =>
      obtain ⟨k, hk, rfl, HJ, hbel⟩ := hrel
      have HBL := Lib.hid hbel
      clear hbel
      obtain ⟨c0, c1, cI, cB, hz⟩ := HA.out _ HBL.out
      have HCB2 := Lib.hid cB
      clear cI cB
      by_cases hlt : k < lg.length
      · have hkn : (k : Int) < n := by omega
        have d1 : decide ((k : Int) < n) = true := by simp [hkn]
        have HL2 := Lib.hid (HL.out.on HCB2.out)
        have HX : Hid (∀ X : Since wr, ArgG 28 w n (.slice a lg.length cap) lg X.val) := fun X => HA.out _ (HBL.out.trans (X.prop.mono hz))
        have hx0 : ∀ X : Since wr, X.val.cell? ⟨w.heap.size, 0, none⟩ = some (.int .i64 n) := fun X => (HX.out X).1
        have hx1 : ∀ X : Since wr, X.val.cell? ⟨w.heap.size, 1, none⟩ = some (.slice a lg.length cap) := fun X => (HX.out X).2.1
        obtain ⟨R, hR⟩ : ∃ R, R = laterR n lg l (k : Int) := ⟨_, rfl⟩
        have HC1 : Hid (∀ X : Since wr, Calls Try.prog 109 #[.agg #[.int .i64 n, .slice a lg.length cap], .slice al l.length capl, .int .i64 k] X.val fun e w' => e = .returned (.int .i64 R) ∧ Below X.val.heap.size X.val w') := fun X => by rw [hR]; exact specLater n _ _ lg l k _ (HX.out X).2.2.1 (HL2.out.on X.prop) hlen
        have HRR := Lib.hid hR
        clear hR
        go_wp2
        refine wp_region_since (by kernel_rfl) (by kernel_rfl) ?_
        by_cases hq : CliqueS n lg R
        · have HC2 : Hid (∀ X : Since wr, Calls Try.prog 126 #[.agg #[.int .i64 n, .slice a lg.length cap], .int .i64 R] X.val fun e w' => e = .returned (.bool true) ∧ Below X.val.heap.size X.val w') := fun X => (specClique n _ lg R _ (HX.out X).2.2.1).mono fun _ _ h => h.is_yes hq
          have HQ := Lib.hid hq
          clear hq c0 c1
          repeat (go_big_quiet_step (first | exact since_call (HC1.out _) | exact since_call (HC2.out _)))
          refine wpQuiet_nil ?_
          intro X
          have HB3 := Lib.hid (HBL.out.trans (X.prop.mono hz))
          clear hx0 hx1
          go_wp2
          go_roundw
          case rel =>
            refine ⟨k + 1, by omega, by go_num, fun i hi => ?_, HB3.out⟩
            rcases Nat.lt_or_ge i k with h | h
            · exact HJ.out i h
            · obtain rfl : i = k := by omega
              rw [← HRR.out]
              exact HQ.out
          case measure => simp [intOf]; omega
        · have HC2 : Hid (∀ X : Since wr, Calls Try.prog 126 #[.agg #[.int .i64 n, .slice a lg.length cap], .int .i64 R] X.val fun e w' => e = .returned (.bool false) ∧ Below X.val.heap.size X.val w') := fun X => (specClique n _ lg R _ (HX.out X).2.2.1).mono fun _ _ h => h.is_no hq
          have HQ := Lib.hid hq
          clear hq c0 c1
          repeat (go_big_quiet_step (first | exact since_call (HC1.out _) | exact since_call (HC2.out _)))
          refine wpQuiet_nil ?_
          intro X
          have HW := Lib.hid (HX.out X).2.2.2.1
          clear hx0 hx1
          go_wp2
          go_ret
          exact SaysB.no (fun h => HQ.out (by rw [HRR.out]; exact h.2 k hlt)) HW.out
      · obtain rfl : k = lg.length := by omega
        have d1 : decide ((lg.length : Int) < n) = false := by simp; omega
        go_wp2
        go_ret
        exact SaysB.yes ⟨HO.out, HJ.out⟩ HCB2.out

end Go.Proofs.Ytcpchdnhhjhpaaa
