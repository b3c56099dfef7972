/- AreThresholdWeights. -/
import Derived.Test.YtbgkceekkinngacP1
import Derived.Test.YtbgkceekkinngacQ
namespace Go.Proofs.Ytbgkceekkinngac
set_option linter.unusedVariables false
set_option linter.unusedSimpArgs false
open Go.RowKit

def WgI (l : List Int) (v : Nat) : Prop := 0 ≤ nth l v ∧ nth l v ≤ 1000000

def WgE (lg l : List Int) (t : Int) (v k : Nat) : Prop := edB lg v k = decide (t < nth l v + nth l k)

/-- Weights within the bounds, whose sums are above the limit where there is an edge. -/
def WgP (n : Int) (lg l : List Int) (t : Int) : Prop := IsG n lg ∧ l.length = lg.length ∧ (0 ≤ t ∧ t ≤ 1000000) ∧ (∀ v, v < l.length → WgI l v) ∧ ∀ v, v < l.length → ∀ k, k < v → WgE lg l t v k

instance (l : List Int) (v : Nat) : Decidable (WgI l v) := by unfold WgI; infer_instance

instance (lg l : List Int) (t : Int) (v k : Nat) : Decidable (WgE lg l t v k) := by unfold WgE; infer_instance

instance (n : Int) (lg l : List Int) (t : Int) : Decidable (WgP n lg l t) := by unfold WgP; infer_instance

theorem l1In_in4 (x lo hi : Int) (w : World) (h1 : lo ≤ x) (h2 : x ≤ hi) :
    Calls Try.prog 69 #[.int .i64 x, .int .i64 lo, .int .i64 hi] w fun e w' => e = .returned (.bool true) ∧ w = w' := by
  go_enter Try.func69, Try.ntmps69
  go_wp2
  go_ret
  exact ⟨rfl, rfl⟩

theorem l1In_out4 (x lo hi : Int) (w : World) (h : ¬ (lo ≤ x ∧ x ≤ hi)) :
    Calls Try.prog 69 #[.int .i64 x, .int .i64 lo, .int .i64 hi] w fun e w' => e = .returned (.bool false) ∧ w = w' := by
  rcases Int.lt_or_le x lo with h1 | h1
  · clear h
    go_enter Try.func69, Try.ntmps69
    go_wp2
    go_ret
    exact ⟨rfl, rfl⟩
  · have h2 : decide (x ≤ hi) = false := by rw [decide_eq_false_iff_not]; omega
    clear h
    go_enter Try.func69, Try.ntmps69
    go_wp2
    go_ret
    exact ⟨rfl, rfl⟩

set_option maxHeartbeats 4000000 in
set_option maxRecDepth 100000 in
theorem implWg (n : Int) (v vl : Value) (lg l : List Int) (t : Int) (w : World) (h : Ints w v lg) (hl : Ints w vl l) (hlen : l.length ≤ 1048576) :
    Calls Try.prog 49 #[.agg #[.int .i64 n, v], vl, .int .i64 t] w (SaysB (WgP n lg l t) w) := by
  obtain ⟨a, cap, rfl, -, -⟩ := h.form
  obtain ⟨al, capl, rfl, hlc, hml⟩ := hl.form
  have HA := argG' (T := 27) (n := n) h
  have HI := Lib.hid h
  have HL := Lib.hid hl
  unfold maxLen at hml
  clear h hl
  go_enter Try.func49, Try.ntmps49
  go_wp2_with fail
  refine (implIsG_any n _ lg _ (HI.out.alloc _)).mono ?_
  rintro e w1 ⟨r, rfl, hr, hb⟩
  have HB := Lib.hid (hb.mono (B' := w.heap.size + 1) (by simp))
  have HR := Lib.hid hr
  clear hb hr
  obtain ⟨c0, c1, cI, cB, hz⟩ := HA.out _ HB.out
  have HCB := Lib.hid cB
  clear cI cB
  cases r with
  | false =>
    go_wp2
    go_ret
    exact SaysB.no (fun h => absurd (HR.out.2 h.1) (by decide)) HCB.out
  | true =>
    have HG := Lib.hid (HR.out.1 (by first | rfl | trivial))
    have hn7 := HG.out.2.1
    have hle : (lg.length : Int) ≤ n := by have := HG.out.2.2.1; omega
    have hge : n ≤ (lg.length : Int) := by have := HG.out.2.2.1; omega
    by_cases hll : l.length = lg.length
    · have q0 : ((l.length : Int) != n) = false := by rw [bne_eq_false_iff_eq]; omega
      have hl1 : l.length ≤ lg.length := by omega
      have hl2 : lg.length ≤ l.length := by omega
      have HLL := Lib.hid hll
      clear hll
      by_cases ht : 0 ≤ t ∧ t ≤ 1000000
      · have t0 : decide (t < 0) = false := decide_eq_false (by omega)
        have t1 : decide (1000000 < t) = false := decide_eq_false (by omega)
        have HT0 := Lib.hid ht
        have ht0 := ht.1
        have ht1 := ht.2
        clear ht
        go_wp2
        clear c0 c1 hz q0
        go_loopw [7, 8, 9, 10, 31] (fun p q r s x wr => ∃ i : Nat, i ≤ l.length ∧ x = .int .i64 i ∧ Hid (∀ u, u < i → WgI l u) ∧ Hid (∀ u, u < i → ∀ k, k < u → WgE lg l t u k) ∧ Below (w.heap.size + 1) (w.alloc (.cells #[.int .i64 n, .slice a lg.length cap] 27)) wr) (fun _ _ _ _ x _ => l.length - (intOf x).toNat)
        case atStart => exact ⟨0, by omega, rfl, fun u hu => absurd hu (by omega), fun u hu => absurd hu (by omega), HB.out⟩
        case round =>
          obtain ⟨i, hi, rfl, HJI, HJE, hbel⟩ := hrel
          have HBL := Lib.hid hbel
          clear hbel
          obtain ⟨-, -, -, cB, hz⟩ := HA.out _ HBL.out
          have HCB2 := Lib.hid cB
          clear cB
          by_cases hlt : i < l.length
          · obtain ⟨b2, off2, capl', hv, hc2, hmx2, hbk2, hcell2⟩ := HL.out.pos (by omega)
            simp only [Value.slice.injEq] at hv
            obtain ⟨rfl, -, rfl⟩ := hv
            have HC2 := Lib.hid hcell2
            have hic : i ≤ capl := by omega
            obtain ⟨x, hx⟩ : ∃ x, x = nth l i := ⟨_, rfl⟩
            have HXX := Lib.hid hx
            have e1 := (HCB2.out.cell (p := ⟨b2, off2 + i, none⟩) hbk2).trans (hcell2 i hlt)
            rw [← hx] at e1
            unfold maxLen at hmx2
            clear hcell2 hx
            by_cases hr : 0 ≤ x ∧ x ≤ 1000000
            · have x0 : decide (x < 0) = false := decide_eq_false (by omega)
              have x1 : decide (1000000 < x) = false := decide_eq_false (by omega)
              have hr0 := hr.1
              have hr1 := hr.2
              have HII := Lib.hid (show WgI l i by unfold WgI; rw [← HXX.out]; exact hr)
              clear hr
              go_wp2
              clear e1 x0 x1
              go_loopw [9, 10, 46] (fun p q y wr => ∃ j : Nat, j ≤ i ∧ y = .int .i64 j ∧ Hid (∀ k, k < j → WgE lg l t i k) ∧ Below (w.heap.size + 1) (w.alloc (.cells #[.int .i64 n, .slice a lg.length cap] 27)) wr) (fun _ _ y _ => i - (intOf y).toNat)
              case atStart => exact ⟨0, by omega, rfl, fun k hk => absurd hk (by omega), HBL.out⟩
              case round =>
                clear HBL HCB2 hz
                obtain ⟨j, hj, rfl, HJ2, hbel⟩ := hrel
                have HBL := Lib.hid hbel
                clear hbel
                obtain ⟨c0, c1, cI, cB, hz⟩ := HA.out _ HBL.out
                have HCI := Lib.hid cI
                have HCB2 := Lib.hid cB
                clear cB cI
                by_cases hlj : j < i
                · have hjl : j < l.length := by omega
                  obtain ⟨y, hy⟩ : ∃ y, y = nth l j := ⟨_, rfl⟩
                  have HYY := Lib.hid hy
                  have e2 := (HCB2.out.cell (p := ⟨b2, off2 + j, none⟩) hbk2).trans (HC2.out j hjl)
                  rw [← hy] at e2
                  have hy01 : 0 ≤ y ∧ y ≤ 1000000 := by have := HJI.out j hlj; unfold WgI at this; rw [← hy] at this; exact this
                  have hy0 := hy01.1
                  have hy1 := hy01.2
                  have g1 : IntKind.i64.wrap (y + x) = y + x := IntWalk.i64_in _ (by omega)
                  clear hy hy01
                  obtain ⟨be, hbe⟩ : ∃ be, be = edB lg j i := ⟨_, rfl⟩
                  have HE := Lib.hid (show be = edB lg i j by rw [hbe]; unfold edB; rw [HG.out.sym (show j < lg.length by omega) (show i < lg.length by omega)])
                  have HAJ := Lib.hid (areJoined_is n _ lg j i _ HCI.out (by omega) (by omega))
                  rw [← hbe] at HAJ
                  clear hbe
                  have HGO : Hid (WgE lg l t i j → ∀ k, k < j + 1 → WgE lg l t i k) := fun hh k h1 => by
                    rcases Nat.lt_or_ge k j with h | h
                    · exact HJ2.out k h
                    · obtain rfl : k = j := by omega
                      exact hh
                  go_wp2_with fail
                  refine HAJ.out.mono ?_
                  rintro e w4 ⟨rfl, hb⟩
                  have HB3 := Lib.hid (HBL.out.trans (hb.mono hz))
                  have HW := Lib.hid (HCB2.out.trans (hb.mono HCB2.out.size))
                  clear hb HAJ c0 c1 hz e2 HCI
                  by_cases hs : t < y + x
                  · have d0 : decide (t < y + x) = true := decide_eq_true hs
                    have HWE := Lib.hid (show WgE lg l t i j ↔ be = true by unfold WgE; rw [← HE.out, ← HXX.out, ← HYY.out, Int.add_comm, d0])
                    clear hs
                    cases be with
                    | true =>
                      have HT := Lib.hid (HGO.out (HWE.out.2 rfl))
                      go_wp2
                      go_roundw
                      case rel => exact ⟨j + 1, by omega, by go_num, HT.out, HB3.out⟩
                      case measure => simp [intOf]; omega
                    | false =>
                      have HN : Hid (¬ WgP n lg l t) := fun h => absurd (HWE.out.1 (h.2.2.2.2 i hlt j hlj)) (by decide)
                      go_wp2
                      go_ret
                      exact SaysB.no HN.out HW.out
                  · have d0 : decide (t < y + x) = false := decide_eq_false hs
                    have HWE := Lib.hid (show WgE lg l t i j ↔ be = false by unfold WgE; rw [← HE.out, ← HXX.out, ← HYY.out, Int.add_comm, d0])
                    clear hs
                    cases be with
                    | false =>
                      have HT := Lib.hid (HGO.out (HWE.out.2 rfl))
                      go_wp2
                      go_roundw
                      case rel => exact ⟨j + 1, by omega, by go_num, HT.out, HB3.out⟩
                      case measure => simp [intOf]; omega
                    | true =>
                      have HN : Hid (¬ WgP n lg l t) := fun h => absurd (HWE.out.1 (h.2.2.2.2 i hlt j hlj)) (by decide)
                      go_wp2
                      go_ret
                      exact SaysB.no HN.out HW.out
                · obtain rfl : j = i := by omega
                  have HT1 : Hid (∀ u, u < j + 1 → WgI l u) := fun u hu => by
                    rcases Nat.lt_or_ge u j with h | h
                    · exact HJI.out u h
                    · obtain rfl : u = j := by omega
                      exact HII.out
                  have HT2 : Hid (∀ u, u < j + 1 → ∀ k, k < u → WgE lg l t u k) := fun u hu k hk => by
                    rcases Nat.lt_or_ge u j with h | h
                    · exact HJE.out u h k hk
                    · obtain rfl : u = j := by omega
                      exact HJ2.out k hk
                  go_wp2
                  go_roundw
                  case rel => exact ⟨j + 1, by omega, by go_num, HT1.out, HT2.out, HBL.out⟩
                  case measure => simp [intOf]; omega
            · have HN : Hid (¬ WgP n lg l t) := fun h => hr (by have := h.2.2.2.1 i hlt; unfold WgI at this; rw [← HXX.out] at this; exact this)
              by_cases h0 : x < 0
              · have x0 : decide (x < 0) = true := decide_eq_true h0
                clear hr h0
                go_wp2
                go_ret
                exact SaysB.no HN.out HCB2.out
              · have x0 : decide (x < 0) = false := decide_eq_false h0
                have x1 : decide (1000000 < x) = true := decide_eq_true (by omega)
                clear hr h0
                go_wp2
                go_ret
                exact SaysB.no HN.out HCB2.out
          · obtain rfl : i = l.length := by omega
            go_wp2
            go_ret
            exact SaysB.yes ⟨HG.out, HLL.out, HT0.out, HJI.out, HJE.out⟩ HCB2.out
      · have HN := Lib.hid (fun h : WgP n lg l t => ht h.2.2.1)
        by_cases h0 : t < 0
        · have t0 : decide (t < 0) = true := decide_eq_true h0
          clear ht h0
          go_wp2
          go_ret
          exact SaysB.no HN.out HCB.out
        · have t0 : decide (t < 0) = false := decide_eq_false h0
          have t1 : decide (1000000 < t) = true := decide_eq_true (by omega)
          clear ht h0
          go_wp2
          go_ret
          exact SaysB.no HN.out HCB.out
    · have q0 : ((l.length : Int) != n) = true := by rw [bne_iff_ne]; omega
      have HN := Lib.hid (fun h : WgP n lg l t => hll h.2.1)
      clear hll
      go_wp2
      go_ret
      exact SaysB.no HN.out HCB.out

set_option maxHeartbeats 4000000 in
set_option maxRecDepth 100000 in
theorem specWg (n : Int) (v vl : Value) (lg l : List Int) (t : Int) (w : World) (h : Ints w v lg) (hl : Ints w vl l) (hlen : l.length ≤ 1048576) :
    Calls Try.prog 48 #[.agg #[.int .i64 n, v], vl, .int .i64 t] w (SaysB (WgP n lg l t) w) := by
  obtain ⟨a, cap, rfl, -, -⟩ := h.form
  obtain ⟨al, capl, rfl, hlc, hml⟩ := hl.form
  have HA := argG' (T := 27) (n := n) h
  have HI := Lib.hid h
  have HL := Lib.hid hl
  unfold maxLen at hml
  clear h hl
  go_enter Try.func48, Try.ntmps48
  go_wp2_with fail
  refine (specIsG_any n _ lg _ (HI.out.alloc _)).mono ?_
  rintro e w1 ⟨r, rfl, hr, hb⟩
  have HB := Lib.hid (hb.mono (B' := w.heap.size + 1) (by simp))
  have HR := Lib.hid hr
  clear hb hr
  obtain ⟨c0, c1, cI, cB, hz⟩ := HA.out _ HB.out
  have HCB := Lib.hid cB
  clear cI cB
  cases r with
  | false =>
    go_wp2
    go_ret
    exact SaysB.no (fun h => absurd (HR.out.2 h.1) (by decide)) HCB.out
  | true =>
    have HG := Lib.hid (HR.out.1 (by first | rfl | trivial))
    have hn7 := HG.out.2.1
    have hle : (lg.length : Int) ≤ n := by have := HG.out.2.2.1; omega
    have hge : n ≤ (lg.length : Int) := by have := HG.out.2.2.1; omega
    by_cases hll : l.length = lg.length
    · have q0 : ((l.length : Int) != n) = false := by rw [bne_eq_false_iff_eq]; omega
      have hl1 : l.length ≤ lg.length := by omega
      have hl2 : lg.length ≤ l.length := by omega
      have HLL := Lib.hid hll
      clear hll
      by_cases ht : 0 ≤ t ∧ t ≤ 1000000
      · have HT0 := Lib.hid ht
        have ht0 := ht.1
        have ht1 := ht.2
        clear ht
        go_wp2_with fail
        refine (l1In_in4 t 0 1000000 _ ht0 ht1).mono ?_
        rintro e w3 ⟨rfl, rfl⟩
        go_wp2
        clear c0 c1 hz q0
        go_loopw [7] (fun x wr => ∃ i : Nat, i ≤ l.length ∧ x = .int .i64 i ∧ Hid (∀ u, u < i → WgI l u) ∧ Below (w.heap.size + 1) (w.alloc (.cells #[.int .i64 n, .slice a lg.length cap] 27)) wr) (fun x _ => l.length - (intOf x).toNat)
        case atStart => exact ⟨0, by omega, rfl, fun u hu => absurd hu (by omega), HB.out⟩
        case round =>
          obtain ⟨i, hi, rfl, HJI, hbel⟩ := hrel
          have HBL := Lib.hid hbel
          clear hbel
          obtain ⟨c0, c1, -, cB, hz⟩ := HA.out _ HBL.out
          have HCB2 := Lib.hid cB
          clear cB c1
          by_cases hlt : i < l.length
          · obtain ⟨b2, off2, capl', hv, hc2, hmx2, hbk2, hcell2⟩ := HL.out.pos (by omega)
            simp only [Value.slice.injEq] at hv
            obtain ⟨rfl, -, rfl⟩ := hv
            have hin : (i : Int) < n := by omega
            obtain ⟨x, hx⟩ : ∃ x, x = nth l i := ⟨_, rfl⟩
            have HXX := Lib.hid hx
            have e1 := (HCB2.out.cell (p := ⟨b2, off2 + i, none⟩) hbk2).trans (hcell2 i hlt)
            rw [← hx] at e1
            unfold maxLen at hmx2
            clear hcell2 hx
            by_cases hr : 0 ≤ x ∧ x ≤ 1000000
            · have HT : Hid (∀ u, u < i + 1 → WgI l u) := fun u hu => by
                rcases Nat.lt_or_ge u i with h | h
                · exact HJI.out u h
                · obtain rfl : u = i := by omega
                  unfold WgI; rw [← HXX.out]; exact hr
              have HR2 := Lib.hid hr
              clear hr
              go_wp2_with fail
              refine (l1In_in4 x 0 1000000 _ HR2.out.1 HR2.out.2).mono ?_
              rintro e w3 ⟨rfl, rfl⟩
              clear e1 c0
              go_wp2
              go_roundw
              case rel => exact ⟨i + 1, by omega, by go_num, HT.out, HBL.out⟩
              case measure => simp [intOf]; omega
            · have HN : Hid (¬ WgP n lg l t) := fun h => hr (by have := h.2.2.2.1 i hlt; unfold WgI at this; rw [← HXX.out] at this; exact this)
              have HR2 := Lib.hid hr
              clear hr
              go_wp2_with fail
              refine (l1In_out4 x 0 1000000 _ (by have := HR2.out; omega)).mono ?_
              rintro e w3 ⟨rfl, rfl⟩
              go_wp2
              go_ret
              exact SaysB.no HN.out HCB2.out
          · obtain rfl : i = l.length := by omega
            have d9 : decide ((l.length : Int) < n) = false := decide_eq_false (by omega)
            go_wp2
            clear c0 d9 hz HCB2
            go_loopw [8, 9] (fun x y wr => ∃ i : Nat, i ≤ l.length ∧ x = .int .i64 i ∧ Hid (∀ u, u < i → ∀ k, k < u → WgE lg l t u k) ∧ Below (w.heap.size + 1) (w.alloc (.cells #[.int .i64 n, .slice a lg.length cap] 27)) wr) (fun x _ _ => l.length - (intOf x).toNat)
            case atStart => exact ⟨0, by omega, rfl, fun u hu => absurd hu (by omega), HBL.out⟩
            case round =>
              clear HBL
              obtain ⟨i, hi, rfl, HJE, hbel⟩ := hrel
              have HBL := Lib.hid hbel
              clear hbel
              obtain ⟨c0, c1, -, cB, hz⟩ := HA.out _ HBL.out
              have HCB2 := Lib.hid cB
              clear cB c1
              by_cases hlt : i < l.length
              · obtain ⟨b2, off2, capl', hv, hc2, hmx2, hbk2, hcell2⟩ := HL.out.pos (by omega)
                simp only [Value.slice.injEq] at hv
                obtain ⟨rfl, -, rfl⟩ := hv
                have HC2 := Lib.hid hcell2
                have hin : (i : Int) < n := by omega
                unfold maxLen at hmx2
                clear hcell2
                go_wp2
                clear c0
                go_loopw [9] (fun y wr => ∃ j : Nat, j ≤ i ∧ y = .int .i64 j ∧ Hid (∀ k, k < j → WgE lg l t i k) ∧ Below (w.heap.size + 1) (w.alloc (.cells #[.int .i64 n, .slice a lg.length cap] 27)) wr) (fun y _ => i - (intOf y).toNat)
                case atStart => exact ⟨0, by omega, rfl, fun k hk => absurd hk (by omega), HBL.out⟩
                case round =>
                  clear HBL HCB2 hz
                  obtain ⟨j, hj, rfl, HJ2, hbel⟩ := hrel
                  have HBL := Lib.hid hbel
                  clear hbel
                  have hz := (HA.out _ HBL.out).2.2.2.2
                  by_cases hlj : j < i
                  · have hjl : j < l.length := by omega
                    obtain ⟨x, hx⟩ : ∃ x, x = nth l i := ⟨_, rfl⟩
                    have HXX := Lib.hid hx
                    obtain ⟨y, hy⟩ : ∃ y, y = nth l j := ⟨_, rfl⟩
                    have HYY := Lib.hid hy
                    have HX : Hid (∀ X : Since wr, ArgG 27 w n (.slice a lg.length cap) lg X.val) := fun X => HA.out _ (HBL.out.trans (X.prop.mono hz))
                    have hx0 : ∀ X : Since wr, X.val.cell? ⟨w.heap.size, 0, none⟩ = some (.int .i64 n) := fun X => (HX.out X).1
                    have hx1 : ∀ X : Since wr, X.val.cell? ⟨w.heap.size, 1, none⟩ = some (.slice a lg.length cap) := fun X => (HX.out X).2.1
                    have hx2 : ∀ X : Since wr, X.val.cell? ⟨b2, off2 + i, none⟩ = some (.int .i64 x) := fun X => by
                      rw [HXX.out]; exact ((HX.out X).2.2.2.1.cell (p := ⟨b2, off2 + i, none⟩) hbk2).trans (HC2.out i hlt)
                    have hx3 : ∀ X : Since wr, X.val.cell? ⟨b2, off2 + j, none⟩ = some (.int .i64 y) := fun X => by
                      rw [HYY.out]; exact ((HX.out X).2.2.2.1.cell (p := ⟨b2, off2 + j, none⟩) hbk2).trans (HC2.out j hjl)
                    have hx01 := HJI.out i hlt
                    have hy01 := HJI.out j hjl
                    unfold WgI at hx01 hy01
                    rw [← hx] at hx01
                    rw [← hy] at hy01
                    have g1 : IntKind.i64.wrap (x + y) = x + y := IntWalk.i64_in _ (by omega)
                    obtain ⟨be, hbe⟩ : ∃ be, be = edB lg i j := ⟨_, rfl⟩
                    have HE := Lib.hid hbe
                    have HC1 : Hid (∀ X : Since wr, Calls Try.prog 82 #[.agg #[.int .i64 n, .slice a lg.length cap], .int .i64 i, .int .i64 j] X.val fun e w' => e = .returned (.bool be) ∧ Below X.val.heap.size X.val w') := fun X => by rw [hbe]; exact l2Edge_is n _ lg i j _ (HX.out X).2.2.1 (by omega) (by omega)
                    have HGO : Hid (WgE lg l t i j → ∀ k, k < j + 1 → WgE lg l t i k) := fun hh k h1 => by
                      rcases Nat.lt_or_ge k j with h | h
                      · exact HJ2.out k h
                      · obtain rfl : k = j := by omega
                        exact hh
                    clear hx hy hx01 hy01 hbe
                    by_cases hs : t < x + y
                    · have d0 : decide (t < x + y) = true := decide_eq_true hs
                      have HWE := Lib.hid (show WgE lg l t i j ↔ be = true by unfold WgE; rw [← HE.out, ← HXX.out, ← HYY.out, d0])
                      clear hs
                      cases be with
                      | true =>
                        have HT := Lib.hid (HGO.out (HWE.out.2 rfl))
                        go_wp2
                        refine wp_region_since (by kernel_rfl) (by kernel_rfl) ?_
                        repeat (go_big_quiet_step (exact since_call (HC1.out _)))
                        refine wpQuiet_nil ?_
                        intro X
                        have HB3 := Lib.hid (HBL.out.trans (X.prop.mono hz))
                        clear hx0 hx1 hx2 hx3 d0 g1
                        go_wp2
                        go_roundw
                        case rel => exact ⟨j + 1, by omega, by go_num, HT.out, HB3.out⟩
                        case measure => simp [intOf]; omega
                      | false =>
                        have HN : Hid (¬ WgP n lg l t) := fun h => absurd (HWE.out.1 (h.2.2.2.2 i hlt j hlj)) (by decide)
                        go_wp2
                        refine wp_region_since (by kernel_rfl) (by kernel_rfl) ?_
                        repeat (go_big_quiet_step (exact since_call (HC1.out _)))
                        refine wpQuiet_nil ?_
                        intro X
                        have HW := Lib.hid (HX.out X).2.2.2.1
                        clear hx0 hx1 hx2 hx3 d0 g1
                        go_wp2
                        go_ret
                        exact SaysB.no HN.out HW.out
                    · have d0 : decide (t < x + y) = false := decide_eq_false hs
                      have HWE := Lib.hid (show WgE lg l t i j ↔ be = false by unfold WgE; rw [← HE.out, ← HXX.out, ← HYY.out, d0])
                      clear hs
                      cases be with
                      | false =>
                        have HT := Lib.hid (HGO.out (HWE.out.2 rfl))
                        go_wp2
                        refine wp_region_since (by kernel_rfl) (by kernel_rfl) ?_
                        repeat (go_big_quiet_step (exact since_call (HC1.out _)))
                        refine wpQuiet_nil ?_
                        intro X
                        have HB3 := Lib.hid (HBL.out.trans (X.prop.mono hz))
                        clear hx0 hx1 hx2 hx3 d0 g1
                        go_wp2
                        go_roundw
                        case rel => exact ⟨j + 1, by omega, by go_num, HT.out, HB3.out⟩
                        case measure => simp [intOf]; omega
                      | true =>
                        have HN : Hid (¬ WgP n lg l t) := fun h => absurd (HWE.out.1 (h.2.2.2.2 i hlt j hlj)) (by decide)
                        go_wp2
                        refine wp_region_since (by kernel_rfl) (by kernel_rfl) ?_
                        repeat (go_big_quiet_step (exact since_call (HC1.out _)))
                        refine wpQuiet_nil ?_
                        intro X
                        have HW := Lib.hid (HX.out X).2.2.2.1
                        clear hx0 hx1 hx2 hx3 d0 g1
                        go_wp2
                        go_ret
                        exact SaysB.no HN.out HW.out
                  · obtain rfl : j = i := by omega
                    have HT2 : Hid (∀ u, u < j + 1 → ∀ k, k < u → WgE lg l t u k) := fun u hu k hk => by
                      rcases Nat.lt_or_ge u j with h | h
                      · exact HJE.out u h k hk
                      · obtain rfl : u = j := by omega
                        exact HJ2.out k hk
                    go_wp2
                    go_roundw
                    case rel => exact ⟨j + 1, by omega, by go_num, HT2.out, HBL.out⟩
                    case measure => simp [intOf]; omega
              · obtain rfl : i = l.length := by omega
                have d9 : decide ((l.length : Int) < n) = false := decide_eq_false (by omega)
                go_wp2
                go_ret
                exact SaysB.yes ⟨HG.out, HLL.out, HT0.out, HJI.out, HJE.out⟩ HCB2.out
      · have HN := Lib.hid (fun h : WgP n lg l t => ht h.2.2.1)
        go_wp2_with fail
        refine (l1In_out4 t 0 1000000 _ ht).mono ?_
        rintro e w3 ⟨rfl, rfl⟩
        clear ht
        go_wp2
        go_ret
        exact SaysB.no HN.out HCB.out
    · have q0 : ((l.length : Int) != n) = true := by rw [bne_iff_ne]; omega
      have HN := Lib.hid (fun h : WgP n lg l t => hll h.2.1)
      clear hll
      go_wp2
      go_ret
      exact SaysB.no HN.out HCB.out

end Go.Proofs.Ytbgkceekkinngac
