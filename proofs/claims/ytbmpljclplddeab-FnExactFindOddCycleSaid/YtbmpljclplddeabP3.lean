/- The specification's IsInducedPath. -/
import Derived.Test.YtbmpljclplddeabP2
namespace Go.Proofs.Ytbmpljclplddeab
set_option linter.unusedVariables false
set_option linter.unusedSimpArgs false
open Go.RowKit

set_option maxHeartbeats 4000000 in
set_option maxRecDepth 100000 in
theorem specIsInducedPath (n : Int) (v vl : Value) (lg l : List Int) (w : World) (h : Ints w v lg) (hl : Ints w vl l) (hlen : l.length ≤ 1048576) :
    Calls Try.prog 119 #[.agg #[.int .i64 n, v], vl] w (SaysB (0 < l.length ∧ HasPat n lg l pathP) w) := by
  obtain ⟨a, cap, rfl, -, -⟩ := h.form
  obtain ⟨al, capl, rfl, -, hml⟩ := hl.form
  have HA := argG' (T := 33) (n := n) h
  have HI := Lib.hid h
  have HL := Lib.hid hl
  unfold maxLen at hml
  clear h hl
  go_enter Try.func119, Try.ntmps119
  go_wp2_with fail
  refine (distinct_is n _ _ lg l _ (HI.out.alloc _) (HL.out.alloc _) hlen).mono ?_
  rintro e w1 ⟨r, rfl, hr, hb⟩
  have HB := Lib.hid (hb.mono (B' := w.heap.size + 1) (by simp))
  clear hb
  cases r with
  | false =>
    have HN := Lib.hid (show ¬ Dist n lg l from fun h => absurd (hr.2 h) (by decide))
    clear hr
    go_wp2
    go_ret
    exact SaysB.no (fun h => HN.out h.2.1) (HA.out _ HB.out).2.2.2.1
  | true =>
    have HD := Lib.hid (hr.1 rfl)
    clear hr
    by_cases hc : 0 < l.length
    · have d0 : ((l.length : Int) == 0) = false := by
        have : ((l.length : Int) ≠ 0) := by omega
        simpa using this
      have HC := Lib.hid hc
      clear hc
      go_wp2
      go_loopw [5] (fun x wr => ∃ j : Nat, j ≤ l.length ∧ x = .int .i64 j ∧ Hid (∀ b, b < j → ∀ a, a < b → edB lg (kl l a) (kl l b) = pathP a b) ∧ Below (w.heap.size + 1) (w.alloc (.cells #[.int .i64 n, .slice a lg.length cap] 33)) wr) (fun x _ => l.length - (intOf x).toNat)
      case atStart => exact ⟨0, by omega, rfl, fun b hb => absurd hb (by omega), HB.out⟩
      case round =>
        obtain ⟨j, hj, rfl, HJ, hbel⟩ := hrel
        by_cases hlt : j < l.length
        · have HBL := Lib.hid hbel
          clear hbel
          go_wp2
          go_loopw [6] (fun x wr => ∃ i : Nat, i ≤ j ∧ x = .int .i64 i ∧ Hid (∀ a, a < i → edB lg (kl l a) (kl l j) = pathP a j) ∧ Below (w.heap.size + 1) (w.alloc (.cells #[.int .i64 n, .slice a lg.length cap] 33)) wr) (fun x _ => j - (intOf x).toNat)
          case atStart => exact ⟨0, by omega, rfl, fun a ha => absurd ha (by omega), HBL.out⟩
          case round =>
            clear HBL
            obtain ⟨i, hi, rfl, HII, hbel⟩ := hrel
            obtain ⟨c0, c1, cI, cB, hz⟩ := HA.out _ hbel
            by_cases hij : i < j
            · have hil : i < l.length := by omega
              obtain ⟨k1, k2, k3⟩ := HD.out.at hil
              obtain ⟨k4, k5, k6⟩ := HD.out.at hlt
              obtain ⟨b, off, cap', hv, _, hmx, hb, hcell⟩ := (HL.out.on cB).pos (by omega)
              simp only [Value.slice.injEq] at hv
              obtain ⟨rfl, -, rfl⟩ := hv
              have e0 := hcell i (by omega)
              have e1 := hcell j hlt
              rw [k1] at e0
              rw [k4] at e1
              obtain ⟨be, hbe⟩ : ∃ be, be = edB lg (kl l i) (kl l j) := ⟨_, rfl⟩
              have HE := Lib.hid hbe
              obtain ⟨ki, hki⟩ : ∃ ki, ki = kl l i := ⟨_, rfl⟩
              obtain ⟨kj, hkj⟩ : ∃ kj, kj = kl l j := ⟨_, rfl⟩
              have HC1 : Hid (∀ W, Ints W (.slice a lg.length cap) lg → Calls Try.prog 82 #[.agg #[.int .i64 n, .slice a lg.length cap], .int .i64 kj, .int .i64 ki] W fun e w' => e = .returned (.bool be) ∧ Below W.heap.size W w') := fun W h => by
                have hs : edB lg (kl l i) (kl l j) = edB lg (kl l j) (kl l i) := by unfold edB; rw [HD.out.graph.sym k2 k5]
                rw [hbe, hki, hkj, hs]
                exact l2Edge_is n _ lg _ _ W h k5 (by omega)
              have HST : Hid (∀ W, Below wr.heap.size wr W → W.cell? ⟨w.heap.size, 0, none⟩ = some (.int .i64 n) ∧ W.cell? ⟨w.heap.size, 1, none⟩ = some (.slice a lg.length cap) ∧ W.cell? ⟨b, off + i, none⟩ = some (.int .i64 ki) ∧ W.cell? ⟨b, off + j, none⟩ = some (.int .i64 kj) ∧ Ints W (.slice a lg.length cap) lg ∧ Below w.heap.size w W ∧ Below wr.heap.size wr W) := fun W hW => by
                refine ⟨(hW.cell (p := ⟨w.heap.size, 0, none⟩) hz).trans c0, (hW.cell (p := ⟨w.heap.size, 1, none⟩) hz).trans c1, ?_, ?_, cI.on hW, cB.trans (hW.mono cB.size), hW⟩
                · rw [hki]; exact (hW.cell (p := ⟨b, off + i, none⟩) hb).trans e0
                · rw [hkj]; exact (hW.cell (p := ⟨b, off + j, none⟩) hb).trans e1
              have HBL := Lib.hid hbel
              unfold maxLen at hmx
              clear hcell hbel cI cB hbe hki hkj k1 k2 k3 k4 k5 k6 e0 e1 c0 c1
              obtain ⟨bp, hbp⟩ : ∃ bp, bp = pathP i j := ⟨_, rfl⟩
              have p1 : ((i : Int) == (j : Int) - 1) = bp := by
                rw [hbp]
                by_cases h : j = i + 1
                · have h1 : (i : Int) = (j : Int) - 1 := by omega
                  simp [pathP, h] <;> omega
                · have h1 : ¬ (i : Int) = (j : Int) - 1 := by omega
                  simp [pathP, h, h1]
              have HP := Lib.hid hbp
              have g1 : IntKind.i64.wrap ((j : Int) - 1) = (j : Int) - 1 := IntWalk.i64_in _ (by omega)
              clear hbp
              by_cases hbb : be = bp
              · subst hbb
                have q1 : (be != be) = false := by simp
                go_wp2
                go_region_held3 (fun W => W.cell? ⟨w.heap.size, 0, none⟩ = some (.int .i64 n) ∧ W.cell? ⟨w.heap.size, 1, none⟩ = some (.slice a lg.length cap) ∧ W.cell? ⟨b, off + i, none⟩ = some (.int .i64 ki) ∧ W.cell? ⟨b, off + j, none⟩ = some (.int .i64 kj) ∧ Ints W (.slice a lg.length cap) lg ∧ Below w.heap.size w W ∧ Below wr.heap.size wr W)
                  (first | exact HST.out _ (Below.refl _ _).drew | exact HST.out _ (Below.refl _ _) | (go_split_ands; exact HST.out _ (btrans (by assumption) hb)))
                  (first | (go_at_call 82; go_split_ands; refine (HC1.out _ (by assumption)).mono ?_; rintro e wz ⟨rfl, hb⟩))
                go_split_ands
                have HW := Lib.hid (show Below wr.heap.size wr wz by assumption)
                go_wp2
                go_roundw
                case rel =>
                  refine ⟨i + 1, by omega, by go_num, fun a ha => ?_, HBL.out.trans (HW.out.mono hz)⟩
                  rcases Nat.lt_or_ge a i with h | h
                  · exact HII.out a h
                  · obtain rfl : a = i := by omega
                    rw [← HE.out, ← HP.out]
                case measure => simp [intOf]; omega
              · have HBB := Lib.hid hbb
                obtain rfl : bp = !be := by cases be <;> cases bp <;> simp_all
                have q1 : (be != !be) = true := by cases be <;> rfl
                have q2 : (be ^^ !be) = true := by cases be <;> rfl
                clear hbb
                go_wp2
                go_region_held3 (fun W => W.cell? ⟨w.heap.size, 0, none⟩ = some (.int .i64 n) ∧ W.cell? ⟨w.heap.size, 1, none⟩ = some (.slice a lg.length cap) ∧ W.cell? ⟨b, off + i, none⟩ = some (.int .i64 ki) ∧ W.cell? ⟨b, off + j, none⟩ = some (.int .i64 kj) ∧ Ints W (.slice a lg.length cap) lg ∧ Below w.heap.size w W ∧ Below wr.heap.size wr W)
                  (first | exact HST.out _ (Below.refl _ _).drew | exact HST.out _ (Below.refl _ _) | (go_split_ands; exact HST.out _ (btrans (by assumption) hb)))
                  (first | (go_at_call 82; go_split_ands; refine (HC1.out _ (by assumption)).mono ?_; rintro e wz ⟨rfl, hb⟩))
                go_split_ands
                have HW := Lib.hid (show Below w.heap.size w wz by assumption)
                go_wp2
                go_ret
                exact SaysB.no (fun hg => HBB.out (HE.out.trans ((hg.2.2 j hlt i hij).trans HP.out.symm))) HW.out
            · obtain rfl : i = j := by omega
              have HBL := Lib.hid hbel
              clear hbel cI cB c0 c1 hz
              go_wp2
              go_roundw
              case rel =>
                refine ⟨i + 1, by omega, by go_num, fun b hb a ha => ?_, HBL.out⟩
                rcases Nat.lt_or_ge b i with h | h
                · exact HJ.out b h a ha
                · obtain rfl : b = i := by omega
                  exact HII.out a ha
              case measure => simp [intOf]; omega
        · obtain rfl : j = l.length := by omega
          have HCC := Lib.hid (HA.out _ hbel).2.2.2.1
          clear hbel
          go_wp2
          go_ret
          exact SaysB.yes ⟨HC.out, HD.out, HJ.out⟩ HCC.out
    · have d0 : ((l.length : Int) == 0) = true := by
        have : (l.length : Int) = 0 := by omega
        rw [this]; rfl
      have HC := Lib.hid hc
      clear hc
      go_wp2
      go_ret
      exact SaysB.no (fun h => HC.out h.1) (HA.out _ HB.out).2.2.2.1

end Go.Proofs.Ytbmpljclplddeab
