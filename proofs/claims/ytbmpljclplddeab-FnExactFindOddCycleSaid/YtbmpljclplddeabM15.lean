/- IsOddCycle. -/
import Derived.Test.YtbmpljclplddeabP1
import Derived.Test.YtbmpljclplddeabQ
import Derived.Test.YtbmpljclplddeabM1
namespace Go.Proofs.Ytbmpljclplddeab
set_option linter.unusedVariables false
set_option linter.unusedSimpArgs false
open Go.RowKit

/-- A cycle of an odd number of vertices. -/
def OddP (n : Int) (lg l : List Int) : Prop := Dist n lg l ∧ 3 ≤ l.length ∧ l.length % 2 = 1 ∧ ∀ i, i < l.length → edB lg (kl l i) (kl l ((i + 1) % l.length)) = true

instance (n : Int) (lg l : List Int) : Decidable (OddP n lg l) := by unfold OddP; infer_instance

set_option maxHeartbeats 4000000 in
set_option maxRecDepth 100000 in
theorem specOdd (n : Int) (v vl : Value) (lg l : List Int) (w : World) (h : Ints w v lg) (hl : Ints w vl l) (hlen : l.length ≤ 1048576) :
    Calls Try.prog 122 #[.agg #[.int .i64 n, v], vl] w (SaysB (OddP n lg l) w) := by
  obtain ⟨a, cap, rfl, -, -⟩ := h.form
  obtain ⟨al, capl, rfl, -, hml⟩ := hl.form
  have HA := argG' (T := 33) (n := n) h
  have HI := Lib.hid h
  have HL := Lib.hid hl
  unfold maxLen at hml
  clear h hl
  go_enter Try.func122, Try.ntmps122
  go_wp2_with fail
  refine (distinct_is n _ _ lg l _ (HI.out.alloc _) (HL.out.alloc _) hlen).mono ?_
  rintro e w1 ⟨r, rfl, hr, hb⟩
  have HB := Lib.hid (hb.mono (B' := w.heap.size + 1) (by simp))
  have HR := Lib.hid hr
  clear hb hr
  obtain ⟨c0, c1, cI, cB, hz⟩ := HA.out _ HB.out
  have HCB := Lib.hid cB
  clear cI cB
  cases r with
  | false =>
    go_wp2
    go_ret
    exact SaysB.no (fun h => absurd (HR.out.2 h.1) (by decide)) HCB.out
  | true =>
    have HD := Lib.hid (HR.out.1 rfl)
    have HAT : Hid (∀ i, i < l.length → nth l i = (kl l i : Int) ∧ kl l i < lg.length ∧ kl l i < 7) := fun i hi => HD.out.at hi
    by_cases h3 : 3 ≤ l.length
    · have d0 : decide ((l.length : Int) < 3) = false := by simp; omega
      by_cases h2 : l.length % 2 = 1
      · have d1 : ((l.length : Int) % 2 == 0) = false := by rw [show (l.length : Int) % 2 = ((l.length % 2 : Nat) : Int) from rfl, h2]; rfl
        have HBS := Lib.hid HB.out
        clear c0 c1 hz
        go_wp2
        go_loopw [5] (fun x wr => ∃ i : Nat, i ≤ l.length ∧ x = .int .i64 i ∧ Hid (∀ i', i' < i → edB lg (kl l i') (kl l ((i' + 1) % l.length)) = true) ∧ Below (w.heap.size + 1) (w.alloc (.cells #[.int .i64 n, .slice a lg.length cap] 33)) wr) (fun x _ => l.length - (intOf x).toNat)
        case atStart => exact ⟨0, by omega, rfl, fun i hi => absurd hi (by omega), HBS.out⟩
        case round =>
          obtain ⟨i, hi, rfl, HJ, hbel⟩ := hrel
          have HBL := Lib.hid hbel
          clear hbel
          obtain ⟨-, -, -, cB, hz⟩ := HA.out _ HBL.out
          have HCB2 := Lib.hid cB
          clear cB
          by_cases hlt : i < l.length
          · obtain ⟨b2, off2, capl', hv, hc2, hmx2, hbk2, hcell2⟩ := HL.out.pos (by omega)
            simp only [Value.slice.injEq] at hv
            obtain ⟨rfl, -, rfl⟩ := hv
            have HC2 := Lib.hid hcell2
            obtain ⟨m, hm⟩ : ∃ m, m = (i + 1) % l.length := ⟨_, rfl⟩
            have hml2 : m < l.length := by rw [hm]; exact Nat.mod_lt _ (by omega)
            have u1 : IntKind.i64.wrap ((i : Int) + 1) = (i : Int) + 1 := IntWalk.i64_in _ (by omega)
            have t1 : Int.tmod ((i : Int) + 1) (l.length : Int) = (m : Int) := by rw [hm]; rfl
            have t2 : ((i : Int) + 1) % (l.length : Int) = (m : Int) := by rw [hm]; rfl
            have HM := Lib.hid hm
            obtain ⟨ki1, ki2, ki3⟩ := HAT.out i hlt
            obtain ⟨km1, km2, km3⟩ := HAT.out m hml2
            obtain ⟨x, hx⟩ : ∃ x, x = kl l i := ⟨_, rfl⟩
            obtain ⟨y, hy⟩ : ∃ y, y = kl l m := ⟨_, rfl⟩
            rw [← hx] at ki1 ki2 ki3
            rw [← hy] at km1 km2 km3
            have HXX := Lib.hid hx
            have HYY := Lib.hid hy
            have HV1 := Lib.hid ki1
            have HV2 := Lib.hid km1
            clear hcell2 ki1 km1 hx hy hm
            have HX : Hid (∀ X : Since wr, ArgG 33 w n (.slice a lg.length cap) lg X.val) := fun X => HA.out _ (HBL.out.trans (X.prop.mono hz))
            have hx0 : ∀ X : Since wr, X.val.cell? ⟨w.heap.size, 0, none⟩ = some (.int .i64 n) := fun X => (HX.out X).1
            have hx1 : ∀ X : Since wr, X.val.cell? ⟨w.heap.size, 1, none⟩ = some (.slice a lg.length cap) := fun X => (HX.out X).2.1
            have hx2 : ∀ X : Since wr, X.val.cell? ⟨b2, off2 + i, none⟩ = some (.int .i64 x) := fun X => by
              rw [← HV1.out]; exact ((HX.out X).2.2.2.1.cell (p := ⟨b2, off2 + i, none⟩) hbk2).trans (HC2.out i hlt)
            have hx3 : ∀ X : Since wr, X.val.cell? ⟨b2, off2 + m, none⟩ = some (.int .i64 y) := fun X => by
              rw [← HV2.out]; exact ((HX.out X).2.2.2.1.cell (p := ⟨b2, off2 + m, none⟩) hbk2).trans (HC2.out m hml2)
            obtain ⟨E, hE⟩ : ∃ E, E = edB lg x y := ⟨_, rfl⟩
            have HC1 : Hid (∀ X : Since wr, Calls Try.prog 82 #[.agg #[.int .i64 n, .slice a lg.length cap], .int .i64 x, .int .i64 y] X.val fun e w' => e = .returned (.bool E) ∧ Below X.val.heap.size X.val w') := fun X => by rw [hE]; exact l2Edge_is n _ lg x y _ (HX.out X).2.2.1 ki2 (by omega)
            have HE := Lib.hid hE
            have hne : ((l.length : Int) == 0) = false := by rw [beq_eq_false_iff_ne]; omega
            clear hE
            go_wp2
            refine wp_region_since (by kernel_rfl) (by kernel_rfl) ?_
            repeat (go_big_quiet_step (exact since_call (HC1.out _)))
            refine wpQuiet_nil ?_
            intro X
            have HB3 := Lib.hid (HBL.out.trans (X.prop.mono hz))
            have HW := Lib.hid (HX.out X).2.2.2.1
            clear hx0 hx1 hx2 hx3 hz u1 t1 t2 hne
            cases E with
            | false =>
              have HN : Hid (¬ OddP n lg l) := fun h => by
                have := h.2.2.2 i hlt
                rw [← HM.out, ← HXX.out, ← HYY.out, ← HE.out] at this
                cases this
              go_wp2
              go_ret
              exact SaysB.no HN.out HW.out
            | true =>
              have HT : Hid (∀ i', i' < i + 1 → edB lg (kl l i') (kl l ((i' + 1) % l.length)) = true) := fun i' h1 => by
                rcases Nat.lt_or_ge i' i with h | h
                · exact HJ.out i' h
                · obtain rfl : i' = i := by omega
                  rw [← HM.out, ← HXX.out, ← HYY.out, ← HE.out]
              go_wp2
              go_roundw
              case rel => exact ⟨i + 1, by omega, by go_num, HT.out, HB3.out⟩
              case measure => simp [intOf]; omega
          · obtain rfl : i = l.length := by omega
            go_wp2
            go_ret
            exact SaysB.yes ⟨HD.out, h3, h2, fun i hi => HJ.out i hi⟩ HCB2.out
      · have d1 : ((l.length : Int) % 2 == 0) = true := by rw [show (l.length : Int) % 2 = ((l.length % 2 : Nat) : Int) from rfl, show l.length % 2 = 0 by omega]; rfl
        have HN : Hid (¬ OddP n lg l) := fun h => h2 h.2.2.1
        clear h2
        go_wp2
        go_ret
        exact SaysB.no HN.out HCB.out
    · have d0 : decide ((l.length : Int) < 3) = true := by simp; omega
      have HN : Hid (¬ OddP n lg l) := fun h => h3 h.2.1
      clear h3
      go_wp2
      go_ret
      exact SaysB.no HN.out HCB.out

end Go.Proofs.Ytbmpljclplddeab
