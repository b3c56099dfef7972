/- Walks over IsHole. -/
import Derived.Test.YteikiifjiapjaacDoorP2
import Derived.Test.YteikiifjiapjaacDoorQ
namespace Go.Proofs.YteikiifjiapjaacDoor
set_option linter.unusedVariables false
set_option linter.unusedSimpArgs false
open Go.RowKit

def holeP (m : Nat) : Nat → Nat → Bool := fun i j => decide (j = i + 1) || (decide (i = 0) && decide (j + 1 = m))

set_option maxRecDepth 100000 in
theorem enters_hole : Enters 147 := fun args W => by rfl

set_option maxHeartbeats 1000000 in
theorem rule_hole (m : Nat) (W0 : World) (hm : m ≤ 1048576) (q : Nat) (hq : W0.cell? ⟨q, 0, none⟩ = some (.int .i64 m)) (hq2 : q < W0.heap.size) : Rule 147 #[.pointer (some ⟨q, 0, none⟩)] m (holeP m) W0 := by
  intro W i j hij hj hbel
  have c0 := (hbel.cell (p := ⟨q, 0, none⟩) hq2).trans hq
  clear hq hq2 hbel
  show Calls Tryd.prog 147 #[.int .i64 i, .int .i64 j, .pointer (some ⟨q, 0, none⟩)] W _
  by_cases a1 : j = i + 1
  · have a1b : ((j : Int) == (i : Int) + 1) = true := by rw [beq_iff_eq]; omega
    have a1h := Lib.hid a1
    clear a1
    go_enter Tryd.func147, Tryd.ntmps147
    go_wp2
    go_ret
    exact ⟨ret_bool (by have a1q := a1h.out; simp [holeP, a1q] <;> omega), Below.refl _ _⟩
  · have a1b : ((j : Int) == (i : Int) + 1) = false := by rw [beq_eq_false_iff_ne]; omega
    by_cases a0 : i = 0
    · have a0b : ((i : Int) == 0) = true := by rw [beq_iff_eq]; omega
      have a0h := Lib.hid a0
      clear a0
      by_cases a2 : j + 1 = m
      · have a2b : ((j : Int) == (m : Int) - 1) = true := by rw [beq_iff_eq]; omega
        have a2h := Lib.hid a2
        clear a2
        go_enter Tryd.func147, Tryd.ntmps147
        go_wp2
        go_ret
        exact ⟨ret_bool (by have a0q := a0h.out; have a2q := a2h.out; simp [holeP, a1, a0q, a2q] <;> omega), Below.refl _ _⟩
      · have a2b : ((j : Int) == (m : Int) - 1) = false := by rw [beq_eq_false_iff_ne]; omega
        go_enter Tryd.func147, Tryd.ntmps147
        go_wp2
        go_ret
        exact ⟨ret_bool (by have a0q := a0h.out; simp [holeP, a1, a0q, a2] <;> omega), Below.refl _ _⟩
    · have a0b : ((i : Int) == 0) = false := by rw [beq_eq_false_iff_ne]; omega
      go_enter Tryd.func147, Tryd.ntmps147
      go_wp2
      go_ret
      exact ⟨ret_bool (by simp [holeP, a1, a0] <;> omega), Below.refl _ _⟩

/-- The pattern's closure: a new cell holds the length. -/
theorem holePattern_is (m : Nat) (w : World) : Calls Tryd.prog 132 #[.int .i64 m] w fun e w' =>
    ∃ q, e = .returned (.func (.func 147) #[] #[.pointer (some ⟨q, 0, none⟩)]) ∧ w'.cell? ⟨q, 0, none⟩ = some (.int .i64 m) ∧ q < w'.heap.size ∧ Below w.heap.size w w' := by
  have hmf : ∀ (fn : Fn) (first cap : Array Value) (w : World), (Instr.makeFunc fn first cap).run Tryd.prog w = .ok (.func fn first cap) w := fun _ _ _ _ => rfl
  go_enter Tryd.func132, Tryd.ntmps132
  go_wp2
  go_ret
  exact ⟨w.heap.size, rfl, by simp [go_sem], by simp, (Below.refl _ w).alloc (Nat.le_refl _) _⟩

set_option maxHeartbeats 2000000 in
set_option maxRecDepth 100000 in
theorem implIsHole (n : Int) (v vl : Value) (lg l : List Int) (w : World) (h : Ints w v lg) (hl : Ints w vl l) (hlen : l.length ≤ 1048576) :
    Calls Tryd.prog 87 #[.agg #[.int .i64 n, v], vl] w (SaysB (4 ≤ l.length ∧ HasPat n lg l (holeP l.length)) w) := by
  obtain ⟨a, cap, rfl, -, -⟩ := h.form
  obtain ⟨al, capl, rfl, -, hml⟩ := hl.form
  have HA := argG' (T := 26) (n := n) h
  have HL := Lib.hid hl
  obtain ⟨w0, hw0⟩ : ∃ w0, w0 = w.alloc (.cells #[.int .i64 n, .slice a lg.length cap] 26) := ⟨_, rfl⟩
  have HST : Hid (∀ W, Below w0.heap.size w0 W → W.cell? ⟨w.heap.size, 0, none⟩ = some (.int .i64 n) ∧ W.cell? ⟨w.heap.size, 1, none⟩ = some (.slice a lg.length cap) ∧ Ints W (.slice a lg.length cap) lg ∧ Ints W (.slice al l.length capl) l ∧ Below w.heap.size w W ∧ Below w0.heap.size w0 W) := fun W hW => by
    obtain ⟨c0, c1, cI, cB, -⟩ := HA.out W (by rw [← hw0]; exact hW.mono (by rw [hw0]; simp))
    exact ⟨c0, c1, cI, HL.out.on cB, cB, hW⟩
  unfold maxLen at hml
  clear h hl
  by_cases hc : 4 ≤ l.length
  · have d0 : decide ((4 : Int) ≤ (l.length : Int)) = true := decide_eq_true (by omega)
    have d1 : decide ((l.length : Int) ≥ 4) = true := decide_eq_true (by omega)
    have HC := Lib.hid hc
    clear hc
    go_enter Tryd.func87, Tryd.ntmps87
    go_wp2
    rw [← hw0]
    clear hw0
    go_region_held3 (fun W => W.cell? ⟨w.heap.size, 0, none⟩ = some (.int .i64 n) ∧ W.cell? ⟨w.heap.size, 1, none⟩ = some (.slice a lg.length cap) ∧ Ints W (.slice a lg.length cap) lg ∧ Ints W (.slice al l.length capl) l ∧ Below w.heap.size w W ∧ Below w0.heap.size w0 W)
      (first | exact HST.out _ (Below.refl _ _).drew | exact HST.out _ (Below.refl _ _) | (go_split_ands; exact HST.out _ (btrans (by assumption) hb)))
      (first
        | (go_at_call 132; go_split_ands; refine (holePattern_is l.length _).mono ?_; rintro e wz ⟨q, rfl, hq, hq2, hb⟩)
        | (go_at_call 131; go_split_ands; refine (hasPattern_any 147 #[.pointer (some ⟨q, 0, none⟩)] (holeP l.length) n _ _ lg l _ (by assumption) (by assumption) hlen enters_hole (rule_hole l.length _ hlen q (by assumption) (by assumption))).mono ?_; rintro e wy ⟨r, rfl, hr, hb⟩))
    go_split_ands
    have HW := Lib.hid (show Below w.heap.size w wy by assumption)
    have HR := Lib.hid hr
    go_wp2
    go_ret
    exact ⟨r, rfl, ⟨fun h => ⟨HC.out, HR.out.1 h⟩, fun h => HR.out.2 h.2⟩, HW.out⟩
  · have d0 : decide ((4 : Int) ≤ (l.length : Int)) = false := decide_eq_false (by omega)
    have d1 : decide ((l.length : Int) ≥ 4) = false := decide_eq_false (by omega)
    have HC := Lib.hid hc
    clear hc
    go_enter Tryd.func87, Tryd.ntmps87
    go_wp2
    rw [← hw0]
    clear hw0
    go_quiet (fail)
    have HW := Lib.hid (HST.out _ (below_drewN (Below.refl w0.heap.size w0) nq)).2.2.2.2.1
    go_wp2
    go_ret
    exact SaysB.no (fun h => HC.out h.1) HW.out

set_option maxHeartbeats 4000000 in
set_option maxRecDepth 100000 in
theorem specIsHole (n : Int) (v vl : Value) (lg l : List Int) (w : World) (h : Ints w v lg) (hl : Ints w vl l) (hlen : l.length ≤ 1048576) :
    Calls Tryd.prog 86 #[.agg #[.int .i64 n, v], vl] w (SaysB (4 ≤ l.length ∧ HasPat n lg l (holeP l.length)) w) := by
  obtain ⟨a, cap, rfl, -, -⟩ := h.form
  obtain ⟨al, capl, rfl, -, hml⟩ := hl.form
  have HA := argG' (T := 26) (n := n) h
  have HI := Lib.hid h
  have HL := Lib.hid hl
  unfold maxLen at hml
  clear h hl
  go_enter Tryd.func86, Tryd.ntmps86
  go_wp2_with fail
  refine (distinct_is n _ _ lg l _ (HI.out.alloc _) (HL.out.alloc _) hlen).mono ?_
  rintro e w1 ⟨r, rfl, hr, hb⟩
  have HB := Lib.hid (hb.mono (B' := w.heap.size + 1) (by simp))
  clear hb
  cases r with
  | false =>
    have HN := Lib.hid (show ¬ Dist n lg l from fun h => absurd (hr.2 h) (by decide))
    clear hr
    go_wp2
    go_ret
    exact SaysB.no (fun h => HN.out h.2.1) (HA.out _ HB.out).2.2.2.1
  | true =>
    have HD := Lib.hid (hr.1 rfl)
    clear hr
    by_cases hc : 4 ≤ l.length
    · have d0 : decide ((l.length : Int) < 4) = false := decide_eq_false (by omega)
      have HC := Lib.hid hc
      clear hc
      go_wp2
      go_loopw [5] (fun x wr => ∃ j : Nat, j ≤ l.length ∧ x = .int .i64 j ∧ Hid (∀ b, b < j → ∀ a, a < b → edB lg (kl l a) (kl l b) = holeP l.length a b) ∧ Below (w.heap.size + 1) (w.alloc (.cells #[.int .i64 n, .slice a lg.length cap] 26)) wr) (fun x _ => l.length - (intOf x).toNat)
      case atStart => exact ⟨0, by omega, rfl, fun b hb => absurd hb (by omega), HB.out⟩
      case round =>
        obtain ⟨j, hj, rfl, HJ, hbel⟩ := hrel
        by_cases hlt : j < l.length
        · have HBL := Lib.hid hbel
          clear hbel
          go_wp2
          go_loopw [6] (fun x wr => ∃ i : Nat, i ≤ j ∧ x = .int .i64 i ∧ Hid (∀ a, a < i → edB lg (kl l a) (kl l j) = holeP l.length a j) ∧ Below (w.heap.size + 1) (w.alloc (.cells #[.int .i64 n, .slice a lg.length cap] 26)) wr) (fun x _ => j - (intOf x).toNat)
          case atStart => exact ⟨0, by omega, rfl, fun a ha => absurd ha (by omega), HBL.out⟩
          case round =>
            clear HBL
            obtain ⟨i, hi, rfl, HII, hbel⟩ := hrel
            obtain ⟨c0, c1, cI, cB, hz⟩ := HA.out _ hbel
            by_cases hij : i < j
            · have hil : i < l.length := by omega
              obtain ⟨k1, k2, k3⟩ := HD.out.at hil
              obtain ⟨k4, k5, k6⟩ := HD.out.at hlt
              obtain ⟨b, off, cap', hv, _, hmx, hb, hcell⟩ := (HL.out.on cB).pos (by omega)
              simp only [Value.slice.injEq] at hv
              obtain ⟨rfl, -, rfl⟩ := hv
              have e0 := hcell i (by omega)
              have e1 := hcell j hlt
              rw [k1] at e0
              rw [k4] at e1
              obtain ⟨be, hbe⟩ : ∃ be, be = edB lg (kl l i) (kl l j) := ⟨_, rfl⟩
              have HE := Lib.hid hbe
              obtain ⟨ki, hki⟩ : ∃ ki, ki = kl l i := ⟨_, rfl⟩
              obtain ⟨kj, hkj⟩ : ∃ kj, kj = kl l j := ⟨_, rfl⟩
              have HC1 : Hid (∀ W, Ints W (.slice a lg.length cap) lg → Calls Tryd.prog 57 #[.agg #[.int .i64 n, .slice a lg.length cap], .int .i64 kj, .int .i64 ki] W fun e w' => e = .returned (.bool be) ∧ Below W.heap.size W w') := fun W h => by
                have hs : edB lg (kl l i) (kl l j) = edB lg (kl l j) (kl l i) := by unfold edB; rw [HD.out.graph.sym k2 k5]
                rw [hbe, hki, hkj, hs]
                exact l2Edge_is n _ lg _ _ W h k5 (by omega)
              have HST : Hid (∀ W, Below wr.heap.size wr W → W.cell? ⟨w.heap.size, 0, none⟩ = some (.int .i64 n) ∧ W.cell? ⟨w.heap.size, 1, none⟩ = some (.slice a lg.length cap) ∧ W.cell? ⟨b, off + i, none⟩ = some (.int .i64 ki) ∧ W.cell? ⟨b, off + j, none⟩ = some (.int .i64 kj) ∧ Ints W (.slice a lg.length cap) lg ∧ Below w.heap.size w W ∧ Below wr.heap.size wr W) := fun W hW => by
                refine ⟨(hW.cell (p := ⟨w.heap.size, 0, none⟩) hz).trans c0, (hW.cell (p := ⟨w.heap.size, 1, none⟩) hz).trans c1, ?_, ?_, cI.on hW, cB.trans (hW.mono cB.size), hW⟩
                · rw [hki]; exact (hW.cell (p := ⟨b, off + i, none⟩) hb).trans e0
                · rw [hkj]; exact (hW.cell (p := ⟨b, off + j, none⟩) hb).trans e1
              have HBL := Lib.hid hbel
              unfold maxLen at hmx
              clear hcell hbel cI cB hbe hki hkj k1 k2 k3 k4 k5 k6 e0 e1 c0 c1
              have hx0 : ∀ X : Since wr, X.val.cell? ⟨w.heap.size, 0, none⟩ = some (.int .i64 n) := fun X => (HST.out _ X.prop).1
              have hx1 : ∀ X : Since wr, X.val.cell? ⟨w.heap.size, 1, none⟩ = some (.slice a lg.length cap) := fun X => (HST.out _ X.prop).2.1
              have hx2 : ∀ X : Since wr, X.val.cell? ⟨b, off + i, none⟩ = some (.int .i64 ki) := fun X => (HST.out _ X.prop).2.2.1
              have hx3 : ∀ X : Since wr, X.val.cell? ⟨b, off + j, none⟩ = some (.int .i64 kj) := fun X => (HST.out _ X.prop).2.2.2.1
              have HXI : Hid (∀ X : Since wr, Ints X.val (.slice a lg.length cap) lg) := fun X => (HST.out _ X.prop).2.2.2.2.1
              have g1 : IntKind.i64.wrap ((j : Int) - 1) = (j : Int) - 1 := IntWalk.i64_in _ (by omega)
              have g2 : IntKind.i64.wrap ((l.length : Int) - 1) = (l.length : Int) - 1 := IntWalk.i64_in _ (by omega)
              by_cases a1 : j = i + 1
              · have a1b : ((i : Int) == (j : Int) - 1) = true := by rw [beq_iff_eq]; omega
                have a1h := Lib.hid a1
                clear a1
                have HP := Lib.hid (show holeP l.length i j = true by have a1q := a1h.out; simp [holeP, a1q] <;> omega)
                go_wp2
                refine wp_region_since (by kernel_rfl) (by kernel_rfl) ?_
                repeat (go_big_quiet_step (exact since_call (HC1.out _ (HXI.out _))))
                refine wpQuiet_nil ?_
                intro X
                have HW := Lib.hid X.prop
                cases be with
                | true =>
                  clear hx0 hx1 hx2 hx3
                  go_wp2
                  go_roundw
                  case rel =>
                    refine ⟨i + 1, by omega, by go_num, fun a ha => ?_, HBL.out.trans (HW.out.mono hz)⟩
                    rcases Nat.lt_or_ge a i with h | h
                    · exact HII.out a h
                    · obtain rfl : a = i := by omega
                      rw [← HE.out, HP.out]
                  case measure => simp [intOf]; omega
                | false =>
                  have HWW := Lib.hid (HST.out _ X.prop).2.2.2.2.2.1
                  clear hx0 hx1 hx2 hx3
                  go_wp2
                  go_ret
                  exact SaysB.no (fun hg => by have h1 := hg.2.2 j hlt i hij; rw [← HE.out, HP.out] at h1; exact absurd h1 (by decide)) HWW.out
              · have a1b : ((i : Int) == (j : Int) - 1) = false := by rw [beq_eq_false_iff_ne]; omega
                by_cases a0 : i = 0
                · have a0b : ((i : Int) == 0) = true := by rw [beq_iff_eq]; omega
                  have a0h := Lib.hid a0
                  clear a0
                  by_cases a2 : j + 1 = l.length
                  · have a2b : ((j : Int) == (l.length : Int) - 1) = true := by rw [beq_iff_eq]; omega
                    have a2h := Lib.hid a2
                    clear a2
                    have HP := Lib.hid (show holeP l.length i j = true by have a0q := a0h.out; have a2q := a2h.out; simp [holeP, a1, a0q, a2q] <;> omega)
                    go_wp2
                    refine wp_region_since (by kernel_rfl) (by kernel_rfl) ?_
                    repeat (go_big_quiet_step (exact since_call (HC1.out _ (HXI.out _))))
                    refine wpQuiet_nil ?_
                    intro X
                    have HW := Lib.hid X.prop
                    cases be with
                    | true =>
                      clear hx0 hx1 hx2 hx3
                      go_wp2
                      go_roundw
                      case rel =>
                        refine ⟨i + 1, by omega, by go_num, fun a ha => ?_, HBL.out.trans (HW.out.mono hz)⟩
                        rcases Nat.lt_or_ge a i with h | h
                        · exact HII.out a h
                        · obtain rfl : a = i := by omega
                          rw [← HE.out, HP.out]
                      case measure => simp [intOf]; omega
                    | false =>
                      have HWW := Lib.hid (HST.out _ X.prop).2.2.2.2.2.1
                      clear hx0 hx1 hx2 hx3
                      go_wp2
                      go_ret
                      exact SaysB.no (fun hg => by have h1 := hg.2.2 j hlt i hij; rw [← HE.out, HP.out] at h1; exact absurd h1 (by decide)) HWW.out
                  · have a2b : ((j : Int) == (l.length : Int) - 1) = false := by rw [beq_eq_false_iff_ne]; omega
                    have HP := Lib.hid (show holeP l.length i j = false by have a0q := a0h.out; simp [holeP, a1, a0q, a2] <;> omega)
                    go_wp2
                    refine wp_region_since (by kernel_rfl) (by kernel_rfl) ?_
                    repeat (go_big_quiet_step (exact since_call (HC1.out _ (HXI.out _))))
                    refine wpQuiet_nil ?_
                    intro X
                    have HW := Lib.hid X.prop
                    cases be with
                    | false =>
                      clear hx0 hx1 hx2 hx3
                      go_wp2
                      go_roundw
                      case rel =>
                        refine ⟨i + 1, by omega, by go_num, fun a ha => ?_, HBL.out.trans (HW.out.mono hz)⟩
                        rcases Nat.lt_or_ge a i with h | h
                        · exact HII.out a h
                        · obtain rfl : a = i := by omega
                          rw [← HE.out, HP.out]
                      case measure => simp [intOf]; omega
                    | true =>
                      have HWW := Lib.hid (HST.out _ X.prop).2.2.2.2.2.1
                      clear hx0 hx1 hx2 hx3
                      go_wp2
                      go_ret
                      exact SaysB.no (fun hg => by have h1 := hg.2.2 j hlt i hij; rw [← HE.out, HP.out] at h1; exact absurd h1 (by decide)) HWW.out
                · have a0b : ((i : Int) == 0) = false := by rw [beq_eq_false_iff_ne]; omega
                  have HP := Lib.hid (show holeP l.length i j = false by simp [holeP, a1, a0] <;> omega)
                  go_wp2
                  refine wp_region_since (by kernel_rfl) (by kernel_rfl) ?_
                  repeat (go_big_quiet_step (exact since_call (HC1.out _ (HXI.out _))))
                  refine wpQuiet_nil ?_
                  intro X
                  have HW := Lib.hid X.prop
                  cases be with
                  | false =>
                    clear hx0 hx1 hx2 hx3
                    go_wp2
                    go_roundw
                    case rel =>
                      refine ⟨i + 1, by omega, by go_num, fun a ha => ?_, HBL.out.trans (HW.out.mono hz)⟩
                      rcases Nat.lt_or_ge a i with h | h
                      · exact HII.out a h
                      · obtain rfl : a = i := by omega
                        rw [← HE.out, HP.out]
                    case measure => simp [intOf]; omega
                  | true =>
                    have HWW := Lib.hid (HST.out _ X.prop).2.2.2.2.2.1
                    clear hx0 hx1 hx2 hx3
                    go_wp2
                    go_ret
                    exact SaysB.no (fun hg => by have h1 := hg.2.2 j hlt i hij; rw [← HE.out, HP.out] at h1; exact absurd h1 (by decide)) HWW.out
            · obtain rfl : i = j := by omega
              have HBL := Lib.hid hbel
              clear hbel cI cB c0 c1 hz
              go_wp2
              go_roundw
              case rel =>
                refine ⟨i + 1, by omega, by go_num, fun b hb a ha => ?_, HBL.out⟩
                rcases Nat.lt_or_ge b i with h | h
                · exact HJ.out b h a ha
                · obtain rfl : b = i := by omega
                  exact HII.out a ha
              case measure => simp [intOf]; omega
        · obtain rfl : j = l.length := by omega
          have HCC := Lib.hid (HA.out _ hbel).2.2.2.1
          clear hbel
          go_wp2
          go_ret
          exact SaysB.yes ⟨HC.out, HD.out, HJ.out⟩ HCC.out
    · have d0 : decide ((l.length : Int) < 4) = true := decide_eq_true (by omega)
      have HC := Lib.hid hc
      clear hc
      go_wp2
      go_ret
      exact SaysB.no (fun h => HC.out h.1) (HA.out _ HB.out).2.2.2.1

end Go.Proofs.YteikiifjiapjaacDoor
