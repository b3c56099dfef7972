/- IsWay: different vertices, each joined to the next one. -/
import Derived.Test.YtbgkceekkinngabP1
import Derived.Test.YtbgkceekkinngabT1
import Derived.Test.YtbgkceekkinngabQ
namespace Go.Proofs.Ytbgkceekkinngab
set_option linter.unusedVariables false
set_option linter.unusedSimpArgs false
open Go.RowKit

def WayP (n : Int) (lg l : List Int) : Prop := Dist n lg l ∧ 0 < l.length ∧ ∀ i, i + 1 < l.length → edB lg (kl l i) (kl l (i + 1)) = true

instance (n : Int) (lg l : List Int) : Decidable (WayP n lg l) :=
  if h1 : Dist n lg l then if h2 : 0 < l.length then
    if h3 : ∀ i, i < l.length - 1 → edB lg (kl l i) (kl l (i + 1)) = true then isTrue ⟨h1, h2, fun i hi => h3 i (by omega)⟩
    else isFalse fun h => h3 fun i hi => h.2.2 i (by omega)
  else isFalse fun h => h2 h.2.1 else isFalse fun h => h1 h.1

set_option maxHeartbeats 2000000 in
set_option maxRecDepth 100000 in
theorem implWay (n : Int) (v vl : Value) (lg l : List Int) (w : World) (h : Ints w v lg) (hl : Ints w vl l) (hlen : l.length ≤ 1048576) :
    Calls Try.prog 23 #[.agg #[.int .i64 n, v], vl] w (SaysB (WayP n lg l) w) := by
  obtain ⟨a, cap, rfl, -, -⟩ := h.form
  obtain ⟨al, capl, rfl, hcl, hml⟩ := hl.form
  have HA := argG' (T := 27) (n := n) h
  have HL := Lib.hid hl
  unfold maxLen at hml
  clear h hl
  go_enter Try.func23, Try.ntmps23
  go_wp2_with fail
  refine (implSetOf _ l _ (HL.out.alloc _) (by omega)).mono ?_
  rintro e w1 ⟨rfl, hb⟩
  have HB := Lib.hid (hb.mono (B' := w.heap.size + 1) (by simp))
  clear hb
  obtain ⟨c0, c1, cI, cB, hz⟩ := HA.out _ HB.out
  have HI := Lib.hid cI
  have HCB := Lib.hid cB
  clear cI cB
  cases hs : setOf l 0 with
  | none =>
    have HN := Lib.hid (show ¬ WayP n lg l from fun ⟨⟨s, h, _⟩, _⟩ => by rw [hs] at h; cases h)
    have b0 : outB (none : Option Int) = false := rfl
    clear hs
    go_wp2
    go_ret
    exact SaysB.no HN.out HCB.out
  | some s =>
    have HS := Lib.hid hs
    have b0 : outB (some s) = true := rfl
    have b1 : outI (some s) = s := rfl
    clear hs
    go_wp2_with fail
    refine (implIsSet n _ lg s _ HI.out).mono ?_
    rintro e w2 ⟨r, rfl, hr, hb⟩
    have HB2 := Lib.hid (HB.out.trans (hb.mono hz))
    have HR := Lib.hid hr
    clear hb hr c0 c1 hz HI
    obtain ⟨c0, c1, cI, cB, hz⟩ := HA.out _ HB2.out
    have HCB2 := Lib.hid cB
    clear cI cB
    cases r with
    | false =>
      have HN := Lib.hid (show ¬ WayP n lg l from fun ⟨⟨s', h, hss⟩, _⟩ => by
        have he := h.symm.trans HS.out
        obtain rfl := Option.some.inj he
        exact absurd (HR.out.2 hss) (by decide))
      go_wp2
      go_ret
      exact SaysB.no HN.out HCB2.out
    | true =>
      have HD := Lib.hid (show Dist n lg l from ⟨s, HS.out, HR.out.1 (by first | rfl | trivial)⟩)
      by_cases h0 : l.length = 0
      · have d0 : ((l.length : Int) == 0) = true := by rw [beq_iff_eq]; omega
        have HN := Lib.hid (show ¬ WayP n lg l from fun h => by have := h.2.1; omega)
        clear h0
        go_wp2
        go_ret
        exact SaysB.no HN.out HCB2.out
      · have d0 : ((l.length : Int) == 0) = false := by rw [beq_eq_false_iff_ne]; omega
        have HL0 := Lib.hid (show 0 < l.length by omega)
        obtain ⟨b2, off2, capl', hv, hc2, hmx2, hbk2, hcell2⟩ := HL.out.pos HL0.out
        simp only [Value.slice.injEq] at hv
        obtain ⟨rfl, -, rfl⟩ := hv
        have HC2 := Lib.hid hcell2
        have hl1 : 1 ≤ l.length := HL0.out
        have hlc : l.length ≤ capl := hcl
        unfold maxLen at hmx2
        clear hcell2 h0 HR hc2 hcl
        by_cases hcp : capl = 1
        · have hle1 : l.length = 1 := by omega
          have HN := Lib.hid (show WayP n lg l from ⟨HD.out, HL0.out, fun i hi => by omega⟩)
          subst hcp
          go_wp2
          clear c0 c1 hz d0 b0 b1
          go_loopw [7, 8, 30] (fun y z i wr => i = .int .i64 0 ∧ Below w.heap.size w wr) (fun _ _ _ _ => 0)
          case atStart => exact ⟨rfl, HCB2.out⟩
          case round =>
            obtain ⟨rfl, hbel⟩ := hrel
            have HBL := Lib.hid hbel
            clear hbel
            have e1 : (l.length : Int) - 1 = 0 := by omega
            go_wp2
            go_ret
            exact SaysB.yes HN.out HBL.out
        · go_wp2
          clear c0 c1 hz d0 b0 b1
          go_loopw [7, 8, 30] (fun y z i wr => ∃ k : Nat, k + 1 ≤ l.length ∧ i = .int .i64 k ∧ Hid (∀ u, u < k → edB lg (kl l u) (kl l (u + 1)) = true) ∧ Below (w.heap.size + 1) (w.alloc (.cells #[.int .i64 n, .slice a lg.length cap] 27)) wr) (fun _ _ i _ => l.length - (intOf i).toNat)
          case atStart => exact ⟨0, by omega, rfl, fun u hu => absurd hu (by omega), HB2.out⟩
          case round =>
            obtain ⟨k, hk, rfl, HJ, hbel⟩ := hrel
            have HBL := Lib.hid hbel
            clear hbel
            obtain ⟨-, -, -, cB, hz⟩ := HA.out _ HBL.out
            have HCB3 := Lib.hid cB
            clear cB
            by_cases hlt : k + 1 < l.length
            · obtain ⟨k1, k2, k3⟩ := HD.out.at (show k < l.length by omega)
              obtain ⟨k4, k5, k6⟩ := HD.out.at hlt
              obtain ⟨x, hx⟩ : ∃ x, x = kl l k := ⟨_, rfl⟩
              obtain ⟨y, hy⟩ : ∃ y, y = kl l (k + 1) := ⟨_, rfl⟩
              have e1 := (HCB3.out.cell (p := ⟨b2, off2 + (k + 1), none⟩) hbk2).trans (HC2.out (k + 1) hlt)
              rw [k4, ← hy] at e1
              have e2 : wr.cell? ⟨b2, off2 + 1 + k, none⟩ = some (.int .i64 y) := by rw [← e1]; congr 2; omega
              obtain ⟨be, hbe⟩ : ∃ be, be = edB lg x y := ⟨_, rfl⟩
              have HX : Hid (∀ X : Since wr, ArgG 27 w n (.slice a lg.length cap) lg X.val) := fun X => HA.out _ (HBL.out.trans (X.prop.mono hz))
              have hx0 : ∀ X : Since wr, X.val.cell? ⟨w.heap.size, 0, none⟩ = some (.int .i64 n) := fun X => (HX.out X).1
              have hx1 : ∀ X : Since wr, X.val.cell? ⟨w.heap.size, 1, none⟩ = some (.slice a lg.length cap) := fun X => (HX.out X).2.1
              have hx2 : ∀ X : Since wr, X.val.cell? ⟨b2, off2 + k, none⟩ = some (.int .i64 x) := fun X => by
                rw [hx, ← k1]; exact ((HX.out X).2.2.2.1.cell (p := ⟨b2, off2 + k, none⟩) hbk2).trans (HC2.out k (by omega))
              have HC1 : Hid (∀ X : Since wr, Calls Try.prog 72 #[.agg #[.int .i64 n, .slice a lg.length cap], .int .i64 x, .int .i64 y] X.val fun e w' => e = .returned (.bool be) ∧ Below X.val.heap.size X.val w') := fun X => by
                rw [hbe, hx, hy]; exact areJoined_is n _ lg _ _ _ (HX.out X).2.2.1 k2 (by omega)
              have HE := Lib.hid (show be = edB lg (kl l k) (kl l (k + 1)) by rw [hbe, hx, hy])
              clear hx hy hbe k1 k2 k3 k4 k5 k6 e1
              cases be with
              | true =>
                have HT : Hid (∀ u, u < k + 1 → edB lg (kl l u) (kl l (u + 1)) = true) := fun u hu => by
                  rcases Nat.lt_or_ge u k with h | h
                  · exact HJ.out u h
                  · obtain rfl : u = k := by omega
                    exact HE.out.symm
                go_wp2
                refine wp_region_since (by kernel_rfl) (by kernel_rfl) ?_
                repeat (go_big_quiet_step (exact since_call (HC1.out _)))
                refine wpQuiet_nil ?_
                intro X
                have HB3 := Lib.hid (HBL.out.trans (X.prop.mono hz))
                clear hx0 hx1 hx2 e2
                go_wp2
                go_roundw
                case rel => exact ⟨k + 1, by omega, by go_num, HT.out, HB3.out⟩
                case measure => simp [intOf]; omega
              | false =>
                have HN := Lib.hid (show ¬ WayP n lg l from fun h => absurd (HE.out.trans (h.2.2 k hlt)) (by decide))
                go_wp2
                refine wp_region_since (by kernel_rfl) (by kernel_rfl) ?_
                repeat (go_big_quiet_step (exact since_call (HC1.out _)))
                refine wpQuiet_nil ?_
                intro X
                have HW := Lib.hid (HX.out X).2.2.2.1
                clear hx0 hx1 hx2 e2
                go_wp2
                go_ret
                exact SaysB.no HN.out HW.out
            · have e1 : (l.length : Int) - 1 = k := by omega
              have HN := Lib.hid (show WayP n lg l from ⟨HD.out, HL0.out, fun i hi => HJ.out i (by omega)⟩)
              go_wp2
              go_ret
              exact SaysB.yes HN.out HCB3.out

set_option maxHeartbeats 2000000 in
set_option maxRecDepth 100000 in
theorem specWay (n : Int) (v vl : Value) (lg l : List Int) (w : World) (h : Ints w v lg) (hl : Ints w vl l) (hlen : l.length ≤ 1048576) :
    Calls Try.prog 22 #[.agg #[.int .i64 n, v], vl] w (SaysB (WayP n lg l) w) := by
  obtain ⟨a, cap, rfl, -, -⟩ := h.form
  obtain ⟨al, capl, rfl, -, hml⟩ := hl.form
  have HA := argG' (T := 27) (n := n) h
  have HI := Lib.hid h
  have HL := Lib.hid hl
  unfold maxLen at hml
  clear h hl
  go_enter Try.func22, Try.ntmps22
  go_wp2_with fail
  refine (distinct_is n _ _ lg l _ (HI.out.alloc _) (HL.out.alloc _) hlen).mono ?_
  rintro e w1 ⟨r, rfl, hr, hb⟩
  have HB := Lib.hid (hb.mono (B' := w.heap.size + 1) (by simp))
  clear hb
  cases r with
  | false =>
    have HN := Lib.hid (show ¬ Dist n lg l from fun h => absurd (hr.2 h) (by decide))
    clear hr
    go_wp2
    go_ret
    exact SaysB.no (fun h => HN.out h.1) (HA.out _ HB.out).2.2.2.1
  | true =>
    have HD := Lib.hid (hr.1 rfl)
    clear hr
    by_cases h0 : l.length = 0
    · have d0 : ((l.length : Int) == 0) = true := by rw [beq_iff_eq]; omega
      have HN := Lib.hid (show ¬ WayP n lg l from fun h => by have := h.2.1; omega)
      clear h0
      go_wp2
      go_ret
      exact SaysB.no HN.out (HA.out _ HB.out).2.2.2.1
    · have d0 : ((l.length : Int) == 0) = false := by rw [beq_eq_false_iff_ne]; omega
      have HL0 := Lib.hid (show 0 < l.length by omega)
      obtain ⟨b2, off2, capl', hv, hc2, hmx2, hbk2, hcell2⟩ := HL.out.pos HL0.out
      simp only [Value.slice.injEq] at hv
      obtain ⟨rfl, -, rfl⟩ := hv
      have HC2 := Lib.hid hcell2
      have hl1 : 1 ≤ l.length := HL0.out
      unfold maxLen at hmx2
      clear hcell2 h0
      go_wp2
      clear d0
      go_loopw [5] (fun i wr => ∃ k : Nat, k + 1 ≤ l.length ∧ i = .int .i64 ((k + 1 : Nat) : Int) ∧ Hid (∀ u, u < k → edB lg (kl l u) (kl l (u + 1)) = true) ∧ Below (w.heap.size + 1) (w.alloc (.cells #[.int .i64 n, .slice a lg.length cap] 27)) wr) (fun i _ => l.length - (intOf i).toNat)
      case atStart => exact ⟨0, by omega, rfl, fun u hu => absurd hu (by omega), HB.out⟩
      case round =>
        obtain ⟨k, hk, rfl, HJ, hbel⟩ := hrel
        have HBL := Lib.hid hbel
        clear hbel
        obtain ⟨-, -, -, cB, hz⟩ := HA.out _ HBL.out
        have HCB3 := Lib.hid cB
        clear cB
        by_cases hlt : k + 1 < l.length
        · obtain ⟨k1, k2, k3⟩ := HD.out.at (show k < l.length by omega)
          obtain ⟨k4, k5, k6⟩ := HD.out.at hlt
          obtain ⟨x, hx⟩ : ∃ x, x = kl l k := ⟨_, rfl⟩
          obtain ⟨y, hy⟩ : ∃ y, y = kl l (k + 1) := ⟨_, rfl⟩
          obtain ⟨be, hbe⟩ : ∃ be, be = edB lg x y := ⟨_, rfl⟩
          have HX : Hid (∀ X : Since wr, ArgG 27 w n (.slice a lg.length cap) lg X.val) := fun X => HA.out _ (HBL.out.trans (X.prop.mono hz))
          have hx0 : ∀ X : Since wr, X.val.cell? ⟨w.heap.size, 0, none⟩ = some (.int .i64 n) := fun X => (HX.out X).1
          have hx1 : ∀ X : Since wr, X.val.cell? ⟨w.heap.size, 1, none⟩ = some (.slice a lg.length cap) := fun X => (HX.out X).2.1
          have hx2 : ∀ X : Since wr, X.val.cell? ⟨b2, off2 + k, none⟩ = some (.int .i64 x) := fun X => by
            rw [hx, ← k1]; exact ((HX.out X).2.2.2.1.cell (p := ⟨b2, off2 + k, none⟩) hbk2).trans (HC2.out k (by omega))
          have hx3 : ∀ X : Since wr, X.val.cell? ⟨b2, off2 + (k + 1), none⟩ = some (.int .i64 y) := fun X => by
            rw [hy, ← k4]; exact ((HX.out X).2.2.2.1.cell (p := ⟨b2, off2 + (k + 1), none⟩) hbk2).trans (HC2.out (k + 1) hlt)
          have HC1 : Hid (∀ X : Since wr, Calls Try.prog 69 #[.agg #[.int .i64 n, .slice a lg.length cap], .int .i64 x, .int .i64 y] X.val fun e w' => e = .returned (.bool be) ∧ Below X.val.heap.size X.val w') := fun X => by
            rw [hbe, hx, hy]; exact l2Edge_is n _ lg _ _ _ (HX.out X).2.2.1 k2 (by omega)
          have HE := Lib.hid (show be = edB lg (kl l k) (kl l (k + 1)) by rw [hbe, hx, hy])
          have g1 : IntKind.i64.wrap (((k + 1 : Nat) : Int) - 1) = (k : Int) := (IntWalk.i64_in _ (by omega)).trans (by omega)
          clear hx hy hbe k1 k2 k3 k4 k5 k6
          cases be with
          | true =>
            have HT : Hid (∀ u, u < k + 1 → edB lg (kl l u) (kl l (u + 1)) = true) := fun u hu => by
              rcases Nat.lt_or_ge u k with h | h
              · exact HJ.out u h
              · obtain rfl : u = k := by omega
                exact HE.out.symm
            go_wp2
            refine wp_region_since (by kernel_rfl) (by kernel_rfl) ?_
            repeat (go_big_quiet_step (exact since_call (HC1.out _)))
            refine wpQuiet_nil ?_
            intro X
            have HB3 := Lib.hid (HBL.out.trans (X.prop.mono hz))
            clear hx0 hx1 hx2 hx3 g1
            go_wp2
            go_roundw
            case rel => exact ⟨k + 1, by omega, by go_num, HT.out, HB3.out⟩
            case measure => simp [intOf]; omega
          | false =>
            have HN := Lib.hid (show ¬ WayP n lg l from fun h => absurd (HE.out.trans (h.2.2 k hlt)) (by decide))
            go_wp2
            refine wp_region_since (by kernel_rfl) (by kernel_rfl) ?_
            repeat (go_big_quiet_step (exact since_call (HC1.out _)))
            refine wpQuiet_nil ?_
            intro X
            have HW := Lib.hid (HX.out X).2.2.2.1
            clear hx0 hx1 hx2 hx3 g1
            go_wp2
            go_ret
            exact SaysB.no HN.out HW.out
        · have HN := Lib.hid (show WayP n lg l from ⟨HD.out, HL0.out, fun i hi => HJ.out i (by omega)⟩)
          have e1 : decide (((k + 1 : Nat) : Int) < (l.length : Int)) = false := decide_eq_false (by omega)
          go_wp2
          go_ret
          exact SaysB.yes HN.out HCB3.out

end Go.Proofs.Ytbgkceekkinngab
