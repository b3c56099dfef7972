/- BandOf. -/
import Derived.Test.YteikiifjiapjaaaM1
import Derived.Test.YteikiifjiapjaaaQ
import Derived.Test.YteikiifjiapjaaaGl
import Derived.Lib.MinMax
namespace Go.Proofs.Yteikiifjiapjaaa
set_option linter.unusedVariables false
set_option linter.unusedSimpArgs false
open Go.RowKit

/-- The band after j places before place i. -/
def bandJ (lg l : List Int) (i : Nat) : Nat → Int → Int
  | 0, b => b
  | j + 1, b => if edB lg (kl l i) (kl l j) then max (bandJ lg l i j b) ((i : Int) - (j : Int)) else bandJ lg l i j b

def bandA (lg l : List Int) : Nat → Int
  | 0 => 0
  | i + 1 => bandJ lg l i i (bandA lg l i)

def bandR (n : Int) (lg l : List Int) : Int := if OrdP n lg l then bandA lg l l.length else -1

set_option maxHeartbeats 4000000 in
set_option maxRecDepth 100000 in
theorem implBand (n : Int) (v vl : Value) (lg l : List Int) (w : World) (h : Ints w v lg) (hl : Ints w vl l) (hlen : l.length ≤ 1048576) :
    Calls Try.prog 77 #[.agg #[.int .i64 n, v], vl] w (SaysN (bandR n lg l) w) := by
  obtain ⟨a, cap, rfl, -, -⟩ := h.form
  obtain ⟨al, capl, rfl, -, hml⟩ := hl.form
  have HA := argG' (T := 28) (n := n) h
  have HI := Lib.hid h
  have HL := Lib.hid hl
  unfold maxLen at hml
  clear h hl
  go_enter Try.func77, Try.ntmps77
  go_wp2_with fail
  refine (implIsOrder n _ _ lg l _ (HI.out.alloc _) (HL.out.alloc _) hlen).mono ?_
  rintro e w1 ⟨r, rfl, hr, hb⟩
  have HB := Lib.hid (hb.mono (B' := w.heap.size + 1) (by simp))
  have HR := Lib.hid hr
  clear hb hr
  obtain ⟨c0, c1, cI, cB, hz⟩ := HA.out _ HB.out
  have HCB := Lib.hid cB
  clear cI cB
  cases r with
  | false =>
    have HN := Lib.hid (show bandR n lg l = -1 by unfold bandR; rw [if_neg (fun h => absurd (HR.out.2 h) (by decide))])
    go_wp2
    go_ret
    exact ⟨by rw [HN.out]; rfl, HCB.out⟩
  | true =>
    have HO := Lib.hid (HR.out.1 rfl)
    have HN := Lib.hid (show bandR n lg l = bandA lg l l.length by unfold bandR; rw [if_pos HO.out])
    go_wp2
    clear c0 c1 hz
    go_loopw [5, 16] (fun s c wr => ∃ (i : Nat) (b : Int), i ≤ l.length ∧ 0 ≤ b ∧ b ≤ 1048576 ∧ c = .int .i64 i ∧ s = .int .i64 b ∧ Hid (b = bandA lg l i) ∧ Below (w.heap.size + 1) (w.alloc (.cells #[.int .i64 n, .slice a lg.length cap] 28)) wr) (fun _ c _ => l.length - (intOf c).toNat)
    case atStart => exact ⟨0, 0, by omega, by omega, by omega, rfl, rfl, rfl, HB.out⟩
    case round =>
      obtain ⟨i, b, hi, hb0, hb1, rfl, rfl, HBB, hbel⟩ := hrel
      have HBL := Lib.hid hbel
      clear hbel
      obtain ⟨-, -, -, cB, hz⟩ := HA.out _ HBL.out
      have HCB2 := Lib.hid cB
      clear cB
      by_cases hlt : i < l.length
      · obtain ⟨b2, off2, capl', hv, hc2, hmx2, hbk2, hcell2⟩ := HL.out.pos (by omega)
        simp only [Value.slice.injEq] at hv
        obtain ⟨rfl, -, rfl⟩ := hv
        have HC2 := Lib.hid hcell2
        have hki := HO.out.1.at hlt
        have e1 := (HCB2.out.cell (p := ⟨b2, off2 + i, none⟩) hbk2).trans (hcell2 i hlt)
        rw [hki.1] at e1
        obtain ⟨ki, hkk⟩ : ∃ k, k = kl l i := ⟨_, rfl⟩
        rw [← hkk] at e1 hki
        have HKI := Lib.hid hkk
        have hki2 := hki.2.1
        have hki3 := hki.2.2
        have hic : i ≤ capl := by omega
        clear hcell2 hki hkk
        go_wp2
        clear e1
        go_loopw [5, 25] (fun s c wr => ∃ (j : Nat) (b : Int), j ≤ i ∧ 0 ≤ b ∧ b ≤ 1048576 ∧ c = .int .i64 j ∧ s = .int .i64 b ∧ Hid (b = bandJ lg l i j (bandA lg l i)) ∧ Below (w.heap.size + 1) (w.alloc (.cells #[.int .i64 n, .slice a lg.length cap] 28)) wr) (fun _ c _ => i - (intOf c).toNat)
        case atStart => exact ⟨0, b, by omega, hb0, hb1, rfl, rfl, HBB.out, HBL.out⟩
        case round =>
          clear HBL HCB2 hz HBB hb0 hb1
          obtain ⟨j, b, hj, hb0, hb1, rfl, rfl, HBB, hbel⟩ := hrel
          have HBL := Lib.hid hbel
          clear hbel
          obtain ⟨c0, c1, cI, cB, hz⟩ := HA.out _ HBL.out
          have HCI := Lib.hid cI
          have HCB2 := Lib.hid cB
          clear cI cB
          by_cases hji : j < i
          · have hkj := HO.out.1.at (show j < l.length by omega)
            have e2 := (HCB2.out.cell (p := ⟨b2, off2 + j, none⟩) hbk2).trans (HC2.out j (by omega))
            rw [hkj.1] at e2
            obtain ⟨kj, hkk⟩ : ∃ k, k = kl l j := ⟨_, rfl⟩
            rw [← hkk] at e2 hkj
            have HKJ := Lib.hid hkk
            have hkj2 := hkj.2.1
            have hkj3 := hkj.2.2
            clear hkj hkk
            go_wp2_with fail
            refine (areJoined_is n _ lg ki kj _ HCI.out hki2 (by omega)).mono ?_
            rintro e w3 ⟨rfl, hb⟩
            have HB3 := Lib.hid (HBL.out.trans (hb.mono hz))
            clear hb c0 c1 hz e2
            cases hed : edB lg ki kj with
            | false =>
              have HT := Lib.hid (show b = bandJ lg l i (j + 1) (bandA lg l i) by rw [HBB.out]; show _ = if _ then _ else _; rw [← HKI.out, ← HKJ.out, hed]; rfl)
              clear hed
              go_wp2
              go_roundw
              case rel => exact ⟨j + 1, b, by omega, hb0, hb1, by go_num, rfl, HT.out, HB3.out⟩
              case measure => simp [intOf]; omega
            | true =>
              have HT := Lib.hid (show max b ((i : Int) - (j : Int)) = bandJ lg l i (j + 1) (bandA lg l i) by rw [HBB.out]; show _ = if _ then _ else _; rw [← HKI.out, ← HKJ.out, hed]; rfl)
              clear hed
              go_wp2
              go_roundw
              case rel => exact ⟨j + 1, max b ((i : Int) - (j : Int)), by omega, by omega, by omega, by go_num, rfl, HT.out, HB3.out⟩
              case measure => simp [intOf]; omega
          · obtain rfl : j = i := by omega
            go_wp2
            go_roundw
            case rel => exact ⟨j + 1, b, by omega, hb0, hb1, by go_num, rfl, by rw [HBB.out]; rfl, HBL.out⟩
            case measure => simp [intOf]; omega
      · obtain rfl : i = l.length := by omega
        go_wp2
        go_ret
        exact ⟨by rw [HN.out, ← HBB.out]; rfl, HCB2.out⟩

set_option maxHeartbeats 4000000 in
set_option maxRecDepth 100000 in
theorem specBand (n : Int) (v vl : Value) (lg l : List Int) (w : World) (h : Ints w v lg) (hl : Ints w vl l) (hlen : l.length ≤ 1048576) :
    Calls Try.prog 76 #[.agg #[.int .i64 n, v], vl] w (SaysN (bandR n lg l) w) := by
  obtain ⟨a, cap, rfl, -, -⟩ := h.form
  obtain ⟨al, capl, rfl, -, hml⟩ := hl.form
  have HA := argG' (T := 28) (n := n) h
  have HI := Lib.hid h
  have HL := Lib.hid hl
  unfold maxLen at hml
  clear h hl
  go_enter Try.func76, Try.ntmps76
  go_wp2_with fail
  refine (specIsOrder n _ _ lg l _ (HI.out.alloc _) (HL.out.alloc _) hlen).mono ?_
  rintro e w1 ⟨r, rfl, hr, hb⟩
  have HB := Lib.hid (hb.mono (B' := w.heap.size + 1) (by simp))
  have HR := Lib.hid hr
  clear hb hr
  obtain ⟨c0, c1, cI, cB, hz⟩ := HA.out _ HB.out
  have HCB := Lib.hid cB
  clear cI cB
  cases r with
  | false =>
    have HN := Lib.hid (show bandR n lg l = -1 by unfold bandR; rw [if_neg (fun h => absurd (HR.out.2 h) (by decide))])
    go_wp2
    go_ret
    exact ⟨by rw [HN.out]; rfl, HCB.out⟩
  | true =>
    have HO := Lib.hid (HR.out.1 (by first | rfl | trivial))
    have HN := Lib.hid (show bandR n lg l = bandA lg l l.length by unfold bandR; rw [if_pos HO.out])
    go_wp2
    clear c0 c1 hz
    go_loopw [5, 6] (fun s c wr => ∃ (i : Nat) (b : Int), i ≤ l.length ∧ 0 ≤ b ∧ b ≤ 1048576 ∧ c = .int .i64 i ∧ s = .int .i64 b ∧ Hid (b = bandA lg l i) ∧ Below (w.heap.size + 1) (w.alloc (.cells #[.int .i64 n, .slice a lg.length cap] 28)) wr) (fun _ c _ => l.length - (intOf c).toNat)
    case atStart => exact ⟨0, 0, by omega, by omega, by omega, rfl, rfl, rfl, HB.out⟩
    case round =>
      obtain ⟨i, b, hi, hb0, hb1, rfl, rfl, HBB, hbel⟩ := hrel
      have HBL := Lib.hid hbel
      clear hbel
      obtain ⟨-, -, -, cB, hz⟩ := HA.out _ HBL.out
      have HCB2 := Lib.hid cB
      clear cB
      by_cases hlt : i < l.length
      · obtain ⟨b2, off2, capl', hv, hc2, hmx2, hbk2, hcell2⟩ := HL.out.pos (by omega)
        simp only [Value.slice.injEq] at hv
        obtain ⟨rfl, -, rfl⟩ := hv
        have HC2 := Lib.hid hcell2
        have hki := HO.out.1.at hlt
        have hki2 := hki.2.1
        have hki3 := hki.2.2
        obtain ⟨ki, hkk⟩ : ∃ k, k = kl l i := ⟨_, rfl⟩
        rw [← hkk] at hki2 hki3
        have HKI := Lib.hid hkk
        have HV1 := Lib.hid (show nth l i = (ki : Int) by rw [hkk]; exact hki.1)
        clear hcell2 hki hkk
        go_wp2
        go_loopw [5, 7] (fun s c wr => ∃ (j : Nat) (b : Int), j ≤ i ∧ 0 ≤ b ∧ b ≤ 1048576 ∧ c = .int .i64 j ∧ s = .int .i64 b ∧ Hid (b = bandJ lg l i j (bandA lg l i)) ∧ Below (w.heap.size + 1) (w.alloc (.cells #[.int .i64 n, .slice a lg.length cap] 28)) wr) (fun _ c _ => i - (intOf c).toNat)
        case atStart => exact ⟨0, b, by omega, hb0, hb1, rfl, rfl, HBB.out, HBL.out⟩
        case round =>
          clear HBL HCB2 hz HBB hb0 hb1
          obtain ⟨j, b, hj, hb0, hb1, rfl, rfl, HBB, hbel⟩ := hrel
          have HBL := Lib.hid hbel
          clear hbel
          obtain ⟨-, -, -, cB, hz⟩ := HA.out _ HBL.out
          have HCB2 := Lib.hid cB
          clear cB
          by_cases hji : j < i
          · have hjl : j < l.length := by omega
            have hkj := HO.out.1.at hjl
            have hkj2 := hkj.2.1
            have hkj3 := hkj.2.2
            obtain ⟨kj, hkk⟩ : ∃ k, k = kl l j := ⟨_, rfl⟩
            rw [← hkk] at hkj2 hkj3
            have HKJ := Lib.hid hkk
            have HV2 := Lib.hid (show nth l j = (kj : Int) by rw [hkk]; exact hkj.1)
            clear hkj hkk
            have HX : Hid (∀ X : Since wr, ArgG 28 w n (.slice a lg.length cap) lg X.val) := fun X => HA.out _ (HBL.out.trans (X.prop.mono hz))
            have hx0 : ∀ X : Since wr, X.val.cell? ⟨w.heap.size, 0, none⟩ = some (.int .i64 n) := fun X => (HX.out X).1
            have hx1 : ∀ X : Since wr, X.val.cell? ⟨w.heap.size, 1, none⟩ = some (.slice a lg.length cap) := fun X => (HX.out X).2.1
            have hx2 : ∀ X : Since wr, X.val.cell? ⟨b2, off2 + i, none⟩ = some (.int .i64 ki) := fun X => by
              rw [← HV1.out]; exact ((HX.out X).2.2.2.1.cell (p := ⟨b2, off2 + i, none⟩) hbk2).trans (HC2.out i hlt)
            have hx3 : ∀ X : Since wr, X.val.cell? ⟨b2, off2 + j, none⟩ = some (.int .i64 kj) := fun X => by
              rw [← HV2.out]; exact ((HX.out X).2.2.2.1.cell (p := ⟨b2, off2 + j, none⟩) hbk2).trans (HC2.out j hjl)
            obtain ⟨E, hE⟩ : ∃ E, E = edB lg ki kj := ⟨_, rfl⟩
            have HC1 : Hid (∀ X : Since wr, Calls Try.prog 95 #[.agg #[.int .i64 n, .slice a lg.length cap], .int .i64 ki, .int .i64 kj] X.val fun e w' => e = .returned (.bool E) ∧ Below X.val.heap.size X.val w') := fun X => by rw [hE]; exact l2Edge_is n _ lg ki kj _ (HX.out X).2.2.1 hki2 (by omega)
            have HE := Lib.hid hE
            clear hE
            go_wp2
            refine wp_region_since (by kernel_rfl) (by kernel_rfl) ?_
            repeat (go_big_quiet_step (exact since_call (HC1.out _)))
            refine wpQuiet_nil ?_
            intro X
            have HB3 := Lib.hid (HBL.out.trans (X.prop.mono hz))
            clear hx0 hx1 hx2 hx3 hz
            cases E with
            | false =>
              have HT := Lib.hid (show b = bandJ lg l i (j + 1) (bandA lg l i) by rw [HBB.out]; show _ = if _ then _ else _; rw [← HKI.out, ← HKJ.out, ← HE.out]; rfl)
              go_wp2
              go_roundw
              case rel => exact ⟨j + 1, b, by omega, hb0, hb1, by go_num, rfl, HT.out, HB3.out⟩
              case measure => simp [intOf]; omega
            | true =>
              have HT := Lib.hid (show max b ((i : Int) - (j : Int)) = bandJ lg l i (j + 1) (bandA lg l i) by rw [HBB.out]; show _ = if _ then _ else _; rw [← HKI.out, ← HKJ.out, ← HE.out]; rfl)
              go_wp2
              go_roundw
              case rel => exact ⟨j + 1, max b ((i : Int) - (j : Int)), by omega, by omega, by omega, by go_num, rfl, HT.out, HB3.out⟩
              case measure => simp [intOf]; omega
          · obtain rfl : j = i := by omega
            go_wp2
            go_roundw
            case rel => exact ⟨j + 1, b, by omega, hb0, hb1, by go_num, rfl, by rw [HBB.out]; rfl, HBL.out⟩
            case measure => simp [intOf]; omega
      · obtain rfl : i = l.length := by omega
        go_wp2
        go_ret
        exact ⟨by rw [HN.out, ← HBB.out]; rfl, HCB2.out⟩

end Go.Proofs.Yteikiifjiapjaaa
