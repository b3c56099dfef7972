/- IsColoring. -/
import Derived.Test.YtfeepheckeplmabP1
import Derived.Test.YtfeepheckeplmabQ
namespace Go.Proofs.Ytfeepheckeplmab
open Go.RowKit

/-- Colours below seven, no two neighbours alike. -/
def ColI (lg c : List Int) (v : Nat) : Prop := (0 ≤ nth c v ∧ nth c v ≤ 6) ∧ ∀ w, w < v → edB lg v w = true → nth c v ≠ nth c w

instance (lg c : List Int) (v : Nat) : Decidable (ColI lg c v) := by unfold ColI; infer_instance

def ColP (n : Int) (lg c : List Int) : Prop := IsG n lg ∧ c.length = lg.length ∧ ∀ v, v < c.length → ColI lg c v

instance (n : Int) (lg c : List Int) : Decidable (ColP n lg c) := by unfold ColP; infer_instance

theorem l1In_in (x lo hi : Int) (w : World) (h1 : lo ≤ x) (h2 : x ≤ hi) :
    Calls Try.prog 52 #[.int .i64 x, .int .i64 lo, .int .i64 hi] w fun e w' => e = .returned (.bool true) ∧ w = w' := by
  go_enter Try.func52, Try.ntmps52
  go_wp2
  go_ret
  exact ⟨rfl, rfl⟩

theorem l1In_out (x lo hi : Int) (w : World) (h : x < lo ∨ hi < x) :
    Calls Try.prog 52 #[.int .i64 x, .int .i64 lo, .int .i64 hi] w fun e w' => e = .returned (.bool false) ∧ w = w' := by
  rcases Int.lt_or_le x lo with h1 | h1
  · go_enter Try.func52, Try.ntmps52
    go_wp2
    go_ret
    exact ⟨rfl, rfl⟩
  · have h2 : decide (x ≤ hi) = false := by rw [decide_eq_false_iff_not]; omega
    go_enter Try.func52, Try.ntmps52
    go_wp2
    go_ret
    exact ⟨rfl, rfl⟩

set_option maxHeartbeats 4000000 in
set_option maxRecDepth 100000 in
theorem specCol (n : Int) (v vl : Value) (lg l : List Int) (w : World) (h : Ints w v lg) (hl : Ints w vl l) (hlen : l.length ≤ 1048576) :
    Calls Try.prog 24 #[.agg #[.int .i64 n, v], vl] w (SaysB (ColP n lg l) w) := by
  obtain ⟨a, cap, rfl, -, -⟩ := h.form
  obtain ⟨al, capl, rfl, -, hml⟩ := hl.form
  have HA := argG' (T := 27) (n := n) h
  have HI := Lib.hid h
  have HL := Lib.hid hl
  unfold maxLen at hml
  clear h hl
  go_enter Try.func24, Try.ntmps24
  go_wp2_with fail
  refine (specIsG_any n _ lg _ (HI.out.alloc _)).mono ?_
  rintro e w1 ⟨r, rfl, hr, hb⟩
  have HB := Lib.hid (hb.mono (B' := w.heap.size + 1) (by simp))
  have HR := Lib.hid hr
  clear hb hr
  obtain ⟨c0, c1, cI, cB, hz⟩ := HA.out _ HB.out
  have HCB := Lib.hid cB
  clear cI cB
  cases r with
  | false =>
    go_wp2
    go_ret
    exact SaysB.no (fun h => absurd (HR.out.2 h.1) (by decide)) HCB.out
  | true =>
    have HG := Lib.hid (HR.out.1 (by first | rfl | trivial))
    have hn7 := HG.out.2.1
    have hle : (lg.length : Int) ≤ n := by have := HG.out.2.2.1; omega
    have hge : n ≤ (lg.length : Int) := by have := HG.out.2.2.1; omega
    by_cases hll : l.length = lg.length
    · have q0 : ((l.length : Int) != n) = false := by rw [bne_eq_false_iff_eq]; omega
      have hl1 : l.length ≤ lg.length := by omega
      have hl2 : lg.length ≤ l.length := by omega
      have HLL := Lib.hid hll
      clear hll
      go_wp2
      clear c0 c1 hz q0
      go_loopw [5] (fun x wr => ∃ i : Nat, i ≤ l.length ∧ x = .int .i64 i ∧ Hid (∀ v, v < i → ColI lg l v) ∧ Below (w.heap.size + 1) (w.alloc (.cells #[.int .i64 n, .slice a lg.length cap] 27)) wr) (fun x _ => l.length - (intOf x).toNat)
      case atStart => exact ⟨0, by omega, rfl, fun i hi => absurd hi (by omega), HB.out⟩
      case round =>
        obtain ⟨i, hi, rfl, HJ, hbel⟩ := hrel
        have HBL := Lib.hid hbel
        clear hbel
        obtain ⟨c0, c1, -, cB, hz⟩ := HA.out _ HBL.out
        have HCB2 := Lib.hid cB
        clear cB c1
        by_cases hlt : i < l.length
        · obtain ⟨b2, off2, capl', hv, hc2, hmx2, hbk2, hcell2⟩ := HL.out.pos (by omega)
          simp only [Value.slice.injEq] at hv
          obtain ⟨rfl, -, rfl⟩ := hv
          have HC2 := Lib.hid hcell2
          have hin : (i : Int) < n := by omega
          have e1 := (HCB2.out.cell (p := ⟨b2, off2 + i, none⟩) hbk2).trans (hcell2 i hlt)
          obtain ⟨x, hx⟩ : ∃ x, x = nth l i := ⟨_, rfl⟩
          rw [← hx] at e1
          have HXX := Lib.hid hx
          clear hcell2 hx
          by_cases hr : 0 ≤ x ∧ x ≤ 6
          · obtain ⟨hr0, hr6⟩ := hr
            go_wp2_with fail
            refine (l1In_in x 0 6 _ hr0 hr6).mono ?_
            rintro e w3 ⟨rfl, rfl⟩
            clear e1 c0
            go_wp2
            go_loopw [6] (fun c wr => ∃ j : Nat, j ≤ i ∧ c = .int .i64 j ∧ Hid (∀ v, v < j → edB lg i v = true → x ≠ nth l v) ∧ Below (w.heap.size + 1) (w.alloc (.cells #[.int .i64 n, .slice a lg.length cap] 27)) wr) (fun c _ => i - (intOf c).toNat)
            case atStart => exact ⟨0, by omega, rfl, fun j h1 => absurd h1 (by omega), HBL.out⟩
            case round =>
              clear HCB2 HBL hz
              obtain ⟨j, hj, rfl, HJ2, hbel⟩ := hrel
              have HBL2 := Lib.hid hbel
              clear hbel
              obtain ⟨-, -, -, cB, hz⟩ := HA.out _ HBL2.out
              have HCB2 := Lib.hid cB
              clear cB
              by_cases hlj : j < i
              · have hjl : j < l.length := by omega
                obtain ⟨y, hy⟩ : ∃ y, y = nth l j := ⟨_, rfl⟩
                have HYY := Lib.hid hy
                have HX : Hid (∀ X : Since wr, ArgG 27 w n (.slice a lg.length cap) lg X.val) := fun X => HA.out _ (HBL2.out.trans (X.prop.mono hz))
                have hx0 : ∀ X : Since wr, X.val.cell? ⟨w.heap.size, 0, none⟩ = some (.int .i64 n) := fun X => (HX.out X).1
                have hx1 : ∀ X : Since wr, X.val.cell? ⟨w.heap.size, 1, none⟩ = some (.slice a lg.length cap) := fun X => (HX.out X).2.1
                have hx2 : ∀ X : Since wr, X.val.cell? ⟨b2, off2 + i, none⟩ = some (.int .i64 x) := fun X => by
                  rw [HXX.out]; exact ((HX.out X).2.2.2.1.cell (p := ⟨b2, off2 + i, none⟩) hbk2).trans (HC2.out i hlt)
                have hx3 : ∀ X : Since wr, X.val.cell? ⟨b2, off2 + j, none⟩ = some (.int .i64 y) := fun X => by
                  rw [HYY.out]; exact ((HX.out X).2.2.2.1.cell (p := ⟨b2, off2 + j, none⟩) hbk2).trans (HC2.out j hjl)
                have HC1 : Hid (∀ b : Bool, edB lg i j = b → ∀ X : Since wr, Calls Try.prog 53 #[.agg #[.int .i64 n, .slice a lg.length cap], .int .i64 i, .int .i64 j] X.val fun e w' => e = .returned (.bool b) ∧ Below X.val.heap.size X.val w') := fun b hb X => by rw [← hb]; exact l2Edge_is n _ lg i j _ (HX.out X).2.2.1 (by omega) (by omega)
                have HGO : Hid ((edB lg i j = true → x ≠ y) → ∀ v, v < j + 1 → edB lg i v = true → x ≠ nth l v) := fun hh v h1 => by
                  rcases Nat.lt_or_ge v j with h | h
                  · exact HJ2.out v h
                  · obtain rfl : v = j := by omega
                    rw [← HYY.out]
                    exact hh
                clear hy
                cases hE : edB lg i j with
                | false =>
                  have HC4 := Lib.hid (HC1.out _ hE)
                  have HT := Lib.hid (HGO.out fun h => absurd (hE.symm.trans h) (by decide))
                  clear hE
                  go_wp2
                  refine wp_region_since (by kernel_rfl) (by kernel_rfl) ?_
                  repeat (go_big_quiet_step (exact since_call (HC4.out _)))
                  refine wpQuiet_nil ?_
                  intro X
                  have HB3 := Lib.hid (HBL2.out.trans (X.prop.mono hz))
                  clear hx0 hx1 hx2 hx3
                  go_wp2
                  go_roundw
                  case rel => exact ⟨j + 1, by omega, by go_num, HT.out, HB3.out⟩
                  case measure => simp [intOf]; omega
                | true =>
                  have HC4 := Lib.hid (HC1.out _ hE)
                  have HE := Lib.hid hE
                  clear hE
                  by_cases hxy : x = y
                  · have d0 : (x == y) = true := by rw [beq_iff_eq]; exact hxy
                    have HN : Hid (¬ ColP n lg l) := fun h => (h.2.2 i hlt).2 j hlj HE.out (by rw [← HXX.out, ← HYY.out]; exact hxy)
                    clear hxy
                    go_wp2
                    refine wp_region_since (by kernel_rfl) (by kernel_rfl) ?_
                    repeat (go_big_quiet_step (exact since_call (HC4.out _)))
                    refine wpQuiet_nil ?_
                    intro X
                    have HW := Lib.hid (HX.out X).2.2.2.1
                    clear hx0 hx1 hx2 hx3
                    go_wp2
                    go_ret
                    exact SaysB.no HN.out HW.out
                  · have d0 : (x == y) = false := by rw [beq_eq_false_iff_ne]; exact hxy
                    have HT := Lib.hid (HGO.out fun _ => hxy)
                    clear hxy
                    go_wp2
                    refine wp_region_since (by kernel_rfl) (by kernel_rfl) ?_
                    repeat (go_big_quiet_step (exact since_call (HC4.out _)))
                    refine wpQuiet_nil ?_
                    intro X
                    have HB3 := Lib.hid (HBL2.out.trans (X.prop.mono hz))
                    clear hx0 hx1 hx2 hx3 d0
                    go_wp2
                    go_roundw
                    case rel => exact ⟨j + 1, by omega, by go_num, HT.out, HB3.out⟩
                    case measure => simp [intOf]; omega
              · obtain rfl : j = i := by omega
                have HT : Hid (∀ v, v < j + 1 → ColI lg l v) := fun v hv => by
                  rcases Nat.lt_or_ge v j with h | h
                  · exact HJ.out v h
                  · obtain rfl : v = j := by omega
                    refine ⟨by rw [← HXX.out]; exact ⟨hr0, hr6⟩, fun u hu he => ?_⟩
                    rw [← HXX.out]
                    exact HJ2.out u hu he
                go_wp2
                go_roundw
                case rel => exact ⟨j + 1, by omega, by go_num, HT.out, HBL2.out⟩
                case measure => simp [intOf]; omega
          · have HN : Hid (¬ ColP n lg l) := fun h => hr (by rw [HXX.out]; exact (h.2.2 i hlt).1)
            have ho : x < 0 ∨ 6 < x := by omega
            clear hr
            go_wp2_with fail
            refine (l1In_out x 0 6 _ ho).mono ?_
            rintro e w3 ⟨rfl, rfl⟩
            clear ho
            go_wp2
            go_ret
            exact SaysB.no HN.out HCB2.out
        · have hin : ¬ (i : Int) < n := by omega
          have HT : Hid (∀ v, v < l.length → ColI lg l v) := fun v hv => HJ.out v (by omega)
          go_wp2
          go_ret
          exact SaysB.yes ⟨HG.out, HLL.out, HT.out⟩ HCB2.out
    · have q0 : ((l.length : Int) != n) = true := by rw [bne_iff_ne]; omega
      have HN : Hid (¬ ColP n lg l) := fun h => hll h.2.1
      clear hll
      go_wp2
      go_ret
      exact SaysB.no HN.out HCB.out

end Go.Proofs.Ytfeepheckeplmab
