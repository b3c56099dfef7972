/- impl.IsUmbrella. -/
import Derived.Test.YtfeepheckeplmaaM12
import Derived.Test.YtfeepheckeplmaaT2
namespace Go.Proofs.Ytfeepheckeplmaa
open Go.RowKit

/-- What is asked of v behind the list l. -/
def StayL (lg l : List Int) (v : Nat) : Prop := ∀ i, i < l.length → edB lg v (kl l i) = true → ∀ j, i < j → j < l.length → edB lg v (kl l j) = true ∧ edB lg (kl l i) (kl l j) = true

theorem stay_take (lg l : List Int) (k : Nat) (hk : k < l.length) : StayL lg (l.take k) (kl l k) ↔ StayP lg l k := by
  have hl : (l.take k).length = k := by rw [List.length_take]; omega
  unfold StayL StayP
  rw [hl]
  refine ⟨fun h i hi he j hij hj => ?_, fun h i hi he j hij hj => ?_⟩
  · have := h i hi (by rw [kl_take hi]; exact he) j hij hj
    rwa [kl_take hi, kl_take hj] at this
  · rw [kl_take hi] at he ⊢
    rw [kl_take hj]
    exact h i hi he j hij hj

set_option maxHeartbeats 4000000 in
set_option maxRecDepth 100000 in
theorem implStays (n : Int) (v vl : Value) (lg l : List Int) (k : Nat) (w : World) (h : Ints w v lg) (hl : Ints w vl l) (hk : k < lg.length) (hm : lg.length ≤ 7) (ho : ∀ i, i < l.length → nth l i = (kl l i : Int) ∧ kl l i < lg.length) (hlen : l.length ≤ 7) :
    Calls Try.prog 66 #[.agg #[.int .i64 n, v], vl, .int .i64 k] w (SaysB (StayL lg l k) w) := by
  obtain ⟨a, cap, rfl, -, -⟩ := h.form
  obtain ⟨al, capl, rfl, hcl, hml⟩ := hl.form
  have HA := argG' (T := 27) (n := n) h
  have HL := Lib.hid hl
  have HO := Lib.hid ho
  unfold maxLen at hml
  clear h hl ho
  go_enter Try.func66, Try.ntmps66
  go_wp2
  go_loopw [13] (fun x wr => ∃ i : Nat, i ≤ l.length ∧ x = .int .i64 i ∧ Hid (∀ i', i' < i → edB lg k (kl l i') = true → ∀ j, i' < j → j < l.length → edB lg k (kl l j) = true ∧ edB lg (kl l i') (kl l j) = true) ∧ Below (w.heap.size + 1) (w.alloc (.cells #[.int .i64 n, .slice a lg.length cap] 27)) wr) (fun x _ => l.length - (intOf x).toNat)
  case atStart => exact ⟨0, by omega, rfl, fun i hi => absurd hi (by omega), Below.refl _ _⟩
  case round =>
    obtain ⟨i, hi, rfl, HJ, hbel⟩ := hrel
    have HBL := Lib.hid hbel
    clear hbel
    obtain ⟨c0, c1, cI, cB, hz⟩ := HA.out _ HBL.out
    have HCI := Lib.hid cI
    have HCB := Lib.hid cB
    clear cI cB
    by_cases hlt : i < l.length
    · obtain ⟨b2, off2, capl', hv, hc2, hmx2, hbk2, hcell2⟩ := HL.out.pos (by omega)
      simp only [Value.slice.injEq] at hv
      obtain ⟨rfl, -, rfl⟩ := hv
      have HC2 := Lib.hid hcell2
      obtain ⟨hki, hki2⟩ := HO.out i hlt
      have e1 := (HCB.out.cell (p := ⟨b2, off2 + i, none⟩) hbk2).trans (hcell2 i hlt)
      rw [hki] at e1
      obtain ⟨x, hx⟩ : ∃ x, x = kl l i := ⟨_, rfl⟩
      rw [← hx] at e1 hki2
      have HX := Lib.hid hx
      clear hcell2 hki hx
      go_wp2_with fail
      refine (areJoined_is n _ lg k x _ HCI.out hk (by omega)).mono ?_
      rintro e w3 ⟨rfl, hb⟩
      have HB3 := Lib.hid (HBL.out.trans (hb.mono hz))
      clear hb c0 c1 hz e1
      cases hed : edB lg k x with
      | false =>
        have HT := Lib.hid (show ∀ i', i' < i + 1 → edB lg k (kl l i') = true → ∀ j, i' < j → j < l.length → edB lg k (kl l j) = true ∧ edB lg (kl l i') (kl l j) = true from fun i' h1 h2 => by
          rcases Nat.lt_or_ge i' i with h | h
          · exact HJ.out i' h h2
          · obtain rfl : i' = i := by omega
            rw [← HX.out, hed] at h2
            cases h2)
        clear hed
        go_wp2
        go_roundw
        case rel => exact ⟨i + 1, by omega, by go_num, HT.out, HB3.out⟩
        case measure => simp [intOf]; omega
      | true =>
        have HED := Lib.hid hed
        clear hed
        have HFIN : Hid ((∀ j, i < j → j < l.length → edB lg k (kl l j) = true ∧ edB lg x (kl l j) = true) → ∀ i', i' < i + 1 → edB lg k (kl l i') = true → ∀ j, i' < j → j < l.length → edB lg k (kl l j) = true ∧ edB lg (kl l i') (kl l j) = true) := fun hh i' h1 h2 => by
          rcases Nat.lt_or_ge i' i with h | h
          · exact HJ.out i' h h2
          · obtain rfl : i' = i := by omega
            rw [← HX.out]
            exact hh
        by_cases hcp : capl = i + 1
        · subst hcp
          have HT := Lib.hid (HFIN.out fun j h1 h2 => absurd h2 (by omega))
          go_wp2
          go_loopw [28] (fun c wr => c = .int .i64 0 ∧ wr = w3) (fun _ _ => 0)
          case atStart => exact ⟨rfl, rfl⟩
          case round =>
            obtain ⟨rfl, rfl⟩ := hrel
            go_wp2
            go_roundw
            case rel => exact ⟨i + 1, by omega, by go_num, HT.out, HB3.out⟩
            case measure => simp [intOf]; omega
        · go_wp2
          go_loopw [28] (fun c wr => ∃ j : Nat, i + 1 + j ≤ l.length ∧ c = .int .i64 j ∧ Hid (∀ j', i < j' → j' < i + 1 + j → edB lg k (kl l j') = true ∧ edB lg x (kl l j') = true) ∧ Below (w.heap.size + 1) (w.alloc (.cells #[.int .i64 n, .slice a lg.length cap] 27)) wr) (fun c _ => l.length - (i + 1) - (intOf c).toNat)
          case atStart => exact ⟨0, by omega, rfl, fun j' h1 h2 => absurd h2 (by omega), HB3.out⟩
          case round =>
            clear HCB HCI
            obtain ⟨j, hj, rfl, HJ2, hbel⟩ := hrel
            have HBL2 := Lib.hid hbel
            clear hbel HBL
            obtain ⟨c0, c1, cI, cB, hz⟩ := HA.out _ HBL2.out
            have HCI2 := Lib.hid cI
            have HCB2 := Lib.hid cB
            clear cI cB
            by_cases hlj : i + 1 + j < l.length
            · obtain ⟨hkj, hkj2⟩ := HO.out (i + 1 + j) hlj
              have e2 : _ = some (Value.int .i64 (nth l (i + 1 + j))) := (HCB2.out.cell (p := ⟨b2, off2 + (i + 1) + j, none⟩) hbk2).trans (by rw [Nat.add_assoc off2]; exact HC2.out (i + 1 + j) hlj)
              rw [hkj] at e2
              obtain ⟨y, hy⟩ : ∃ y, y = kl l (i + 1 + j) := ⟨_, rfl⟩
              rw [← hy] at e2 hkj2
              have HY := Lib.hid hy
              clear hkj hy
              go_wp2_with fail
              refine (areJoined_is n _ lg k y _ HCI2.out hk (by omega)).mono ?_
              rintro e w4 ⟨rfl, hb⟩
              have HB4 := Lib.hid (HBL2.out.trans (hb.mono hz))
              clear hb c0 c1 hz e2
              obtain ⟨c0, c1, cI, cB, hz⟩ := HA.out _ HB4.out
              have HCI4 := Lib.hid cI
              have HCB4 := Lib.hid cB
              clear cI cB
              cases hey : edB lg k y with
              | false =>
                have HN : Hid (¬ StayL lg l k) := fun hs => by
                  have := (hs i hlt (by rw [← HX.out]; exact HED.out) (i + 1 + j) (by omega) hlj).1
                  rw [← HY.out, hey] at this
                  cases this
                clear hey
                go_wp2
                go_ret
                exact SaysB.no HN.out HCB4.out
              | true =>
                have HEY := Lib.hid hey
                clear hey
                go_wp2_with fail
                refine (areJoined_is n _ lg x y _ HCI4.out hki2 (by omega)).mono ?_
                rintro e w5 ⟨rfl, hb⟩
                have HB5 := Lib.hid (HB4.out.trans (hb.mono hz))
                clear hb c0 c1 hz
                have HCB5 := Lib.hid (HA.out _ HB5.out).2.2.2.1
                cases hxy : edB lg x y with
                | false =>
                  have HN : Hid (¬ StayL lg l k) := fun hs => by
                    have := (hs i hlt (by rw [← HX.out]; exact HED.out) (i + 1 + j) (by omega) hlj).2
                    rw [← HY.out, ← HX.out, hxy] at this
                    cases this
                  clear hxy
                  go_wp2
                  go_ret
                  exact SaysB.no HN.out HCB5.out
                | true =>
                  have HT : Hid (∀ j', i < j' → j' < i + 1 + (j + 1) → edB lg k (kl l j') = true ∧ edB lg x (kl l j') = true) := fun j' h1 h2 => by
                    rcases Nat.lt_or_ge j' (i + 1 + j) with h | h
                    · exact HJ2.out j' h1 h
                    · obtain rfl : j' = i + 1 + j := by omega
                      rw [← HY.out]
                      exact ⟨HEY.out, hxy⟩
                  clear hxy
                  go_wp2
                  go_roundw
                  case rel => exact ⟨j + 1, by omega, by go_num, HT.out, HB5.out⟩
                  case measure => simp [intOf]; omega
            · have HT := Lib.hid (HFIN.out fun j' h1 h2 => HJ2.out j' h1 (by omega))
              go_wp2
              go_roundw
              case rel => exact ⟨i + 1, by omega, by go_num, HT.out, HBL2.out⟩
              case measure => simp [intOf]; omega
    · obtain rfl : i = l.length := by omega
      go_wp2
      go_ret
      exact SaysB.yes (fun i hi he j hij hj => HJ.out i hi he j hij hj) HCB.out

set_option maxHeartbeats 4000000 in
set_option maxRecDepth 100000 in
theorem implUmb (n : Int) (v vl : Value) (lg l : List Int) (w : World) (h : Ints w v lg) (hl : Ints w vl l) (hlen : l.length ≤ 1048576) :
    Calls Try.prog 35 #[.agg #[.int .i64 n, v], vl] w (SaysB (UmbR n lg l) w) := by
  obtain ⟨a, cap, rfl, -, -⟩ := h.form
  obtain ⟨al, capl, rfl, -, hml⟩ := hl.form
  have HA := argG' (T := 27) (n := n) h
  have HI := Lib.hid h
  have HL := Lib.hid hl
  unfold maxLen at hml
  clear h hl
  go_enter Try.func35, Try.ntmps35
  go_wp2_with fail
  refine (implIsOrder n _ _ lg l _ (HI.out.alloc _) (HL.out.alloc _) hlen).mono ?_
  rintro e w1 ⟨r, rfl, hr, hb⟩
  have HB := Lib.hid (hb.mono (B' := w.heap.size + 1) (by simp))
  have HR := Lib.hid hr
  clear hb hr
  obtain ⟨c0, c1, cI, cB, hz⟩ := HA.out _ HB.out
  have HCB := Lib.hid cB
  clear cI cB
  cases r with
  | false =>
    go_wp2
    go_ret
    exact SaysB.no (fun h => absurd (HR.out.2 h.1) (by decide)) HCB.out
  | true =>
    have HO := Lib.hid (HR.out.1 rfl)
    have HAT : Hid (∀ i, i < l.length → nth l i = (kl l i : Int) ∧ kl l i < lg.length) := fun i hi => ⟨(HO.out.1.at hi).1, (HO.out.1.at hi).2.1⟩
    obtain ⟨hll, hm7, hnl⟩ := HO.out.len
    have hl7 : l.length ≤ 7 := by omega
    have hg7 : lg.length ≤ 7 := by omega
    clear hll hm7 hnl
    go_wp2
    clear c0 c1 hz
    go_loopw [13] (fun x wr => ∃ i : Nat, i ≤ l.length ∧ x = .int .i64 i ∧ Hid (∀ k, k < i → StayP lg l k) ∧ Below (w.heap.size + 1) (w.alloc (.cells #[.int .i64 n, .slice a lg.length cap] 27)) wr) (fun x _ => l.length - (intOf x).toNat)
    case atStart => exact ⟨0, by omega, rfl, fun i hi => absurd hi (by omega), HB.out⟩
    case round =>
      obtain ⟨i, hi, rfl, HJ, hbel⟩ := hrel
      have HBL := Lib.hid hbel
      clear hbel
      obtain ⟨-, -, -, cB, hz⟩ := HA.out _ HBL.out
      have HCB2 := Lib.hid cB
      clear cB
      by_cases hlt : i < l.length
      · obtain ⟨b2, off2, capl', hv, hc2, hmx2, hbk2, hcell2⟩ := HL.out.pos (by omega)
        simp only [Value.slice.injEq] at hv
        obtain ⟨rfl, -, rfl⟩ := hv
        obtain ⟨hki, hki2⟩ := HAT.out i hlt
        obtain ⟨x, hx⟩ : ∃ x, x = kl l i := ⟨_, rfl⟩
        rw [← hx] at hki2
        have HXX := Lib.hid hx
        have HV1 := Lib.hid (show nth l i = (x : Int) by rw [hx]; exact hki)
        have hic : i ≤ capl := by omega
        have e1 := (HCB2.out.cell (p := ⟨b2, off2 + i, none⟩) hbk2).trans (hcell2 i hlt)
        rw [HV1.out] at e1
        clear hcell2 hki hx
        have HX : Hid (∀ X : Since wr, ArgG 27 w n (.slice a lg.length cap) lg X.val) := fun X => HA.out _ (HBL.out.trans (X.prop.mono hz))
        have hx0 : ∀ X : Since wr, X.val.cell? ⟨w.heap.size, 0, none⟩ = some (.int .i64 n) := fun X => (HX.out X).1
        have hx1 : ∀ X : Since wr, X.val.cell? ⟨w.heap.size, 1, none⟩ = some (.slice a lg.length cap) := fun X => (HX.out X).2.1
        have hlt7 : (l.take i).length ≤ 7 := by rw [List.length_take]; omega
        have HP : Hid (∀ j, j < (l.take i).length → nth (l.take i) j = (kl (l.take i) j : Int) ∧ kl (l.take i) j < lg.length) := fun j hj => by
          have hji : j < i := by rw [List.length_take] at hj; omega
          rw [nth_take hji, kl_take hji]
          exact HAT.out j (by omega)
        obtain ⟨E, hE⟩ : ∃ E : Bool, E = true ↔ StayL lg (l.take i) x := by
          by_cases h : StayL lg (l.take i) x
          · exact ⟨true, by simp [h]⟩
          · exact ⟨false, by simp [h]⟩
        have HC1 : Hid (∀ X : Since wr, Calls Try.prog 66 #[.agg #[.int .i64 n, .slice a lg.length cap], .slice (some ⟨b2, off2, none⟩) i capl, .int .i64 x] X.val fun e w' => e = .returned (.bool E) ∧ Below X.val.heap.size X.val w') := fun X =>
          (implStays n _ _ lg (l.take i) x _ (HX.out X).2.2.1 ((HL.out.on (HX.out X).2.2.2.1).take (by omega)) hki2 hg7 HP.out hlt7).mono fun e w' ⟨r, he, hr, hb⟩ => ⟨by rw [he, Bool.eq_iff_iff.2 (hr.trans hE.symm)], hb⟩
        have HE : Hid (E = true ↔ StayP lg l i) := hE.trans (by rw [HXX.out, stay_take lg l i hlt])
        clear hE
        go_wp2
        refine wp_region_since (by kernel_rfl) (by kernel_rfl) ?_
        repeat (go_big_quiet_step (exact since_call (HC1.out _)))
        refine wpQuiet_nil ?_
        intro X
        have HB3 := Lib.hid (HBL.out.trans (X.prop.mono hz))
        have HW := Lib.hid (HX.out X).2.2.2.1
        clear hx0 hx1 hz e1
        cases E with
        | false =>
          have HN : Hid (¬ UmbR n lg l) := fun hu => absurd (HE.out.2 ((umb_stay hu.1).1 hu.2 i hlt)) (by decide)
          go_wp2
          go_ret
          exact SaysB.no HN.out HW.out
        | true =>
          have HT : Hid (∀ k, k < i + 1 → StayP lg l k) := fun k hk => by
            rcases Nat.lt_or_ge k i with h | h
            · exact HJ.out k h
            · obtain rfl : k = i := by omega
              exact HE.out.1 rfl
          go_wp2
          go_roundw
          case rel => exact ⟨i + 1, by omega, by go_num, HT.out, HB3.out⟩
          case measure => simp [intOf]; omega
      · obtain rfl : i = l.length := by omega
        go_wp2
        go_ret
        exact SaysB.yes ⟨HO.out, (umb_stay HO.out).2 HJ.out⟩ HCB2.out

end Go.Proofs.Ytfeepheckeplmaa
