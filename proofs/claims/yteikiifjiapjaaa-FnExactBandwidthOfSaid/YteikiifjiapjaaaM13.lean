/- impl.IsUmbrella. -/
import Derived.Test.YteikiifjiapjaaaM12
import Derived.Test.YteikiifjiapjaaaT2
namespace Go.Proofs.Yteikiifjiapjaaa
set_option linter.unusedVariables false
set_option linter.unusedSimpArgs false
open Go.RowKit

/-- What is asked of v behind the list l. -/
def StayL (lg l : List Int) (v : Nat) : Prop := ∀ i, i < l.length → edB lg v (kl l i) = true → ∀ j, i < j → j < l.length → edB lg v (kl l j) = true ∧ edB lg (kl l i) (kl l j) = true

theorem stay_take (lg l : List Int) (k : Nat) (hk : k < l.length) : StayL lg (l.take k) (kl l k) ↔ StayP lg l k := by
  have hl : (l.take k).length = k := by rw [List.length_take]; omega
  unfold StayL StayP
  rw [hl]
  refine ⟨fun h i hi he j hij hj => ?_, fun h i hi he j hij hj => ?_⟩
  · have := h i hi (by rw [kl_take hi]; exact he) j hij hj
    rwa [kl_take hi, kl_take hj] at this
  · rw [kl_take hi] at he ⊢
    rw [kl_take hj]
    exact h i hi he j hij hj

set_option maxHeartbeats 4000000 in
set_option maxRecDepth 100000 in
theorem implStays (n : Int) (v vl : Value) (lg l : List Int) (k : Nat) (w : World) (h : Ints w v lg) (hl : Ints w vl l) (hk : k < lg.length) (hm : lg.length ≤ 7) (ho : ∀ i, i < l.length → nth l i = (kl l i : Int) ∧ kl l i < lg.length) (hlen : l.length ≤ 7) :
    Calls Try.prog 72 #[.agg #[.int .i64 n, v], vl, .int .i64 k] w (SaysB (StayL lg l k) w) := by
  obtain ⟨a, cap, rfl, -, -⟩ := h.form
  obtain ⟨al, capl, rfl, hcl, hml⟩ := hl.form
  have HA := argG' (T := 28) (n := n) h
  have HL := Lib.hid hl
  have HO := Lib.hid ho
  unfold maxLen at hml
  clear h hl ho
  go_enter Try.func72, Try.ntmps72
  go_wp2
  go_loopw [13] (fun x wr => ∃ i : Nat, i ≤ l.length ∧ x = .int .i64 i ∧ Hid (∀ i', i' < i → edB lg k (kl l i') = true → ∀ j, i' < j → j < l.length → edB lg k (kl l j) = true ∧ edB lg (kl l i') (kl l j) = true) ∧ Below (w.heap.size + 1) (w.alloc (.cells #[.int .i64 n, .slice a lg.length cap] 28)) wr) (fun x _ => l.length - (intOf x).toNat)
  case atStart => exact ⟨0, by omega, rfl, fun i hi => absurd hi (by omega), Below.refl _ _⟩
  case round =>
    obtain ⟨i, hi, rfl, HJ, hbel⟩ := hrel
    have HBL := Lib.hid hbel
    clear hbel
    obtain ⟨c0, c1, cI, cB, hz⟩ := HA.out _ HBL.out
    have HCI := Lib.hid cI
    have HCB := Lib.hid cB
    clear cI cB
    by_cases hlt : i < l.length
    · obtain ⟨b2, off2, capl', hv, hc2, hmx2, hbk2, hcell2⟩ := HL.out.pos (by omega)
      simp only [Value.slice.injEq] at hv
      obtain ⟨rfl, -, rfl⟩ := hv
      have HC2 := Lib.hid hcell2
      obtain ⟨hki, hki2⟩ := HO.out i hlt
      have e1 := (HCB.out.cell (p := ⟨b2, off2 + i, none⟩) hbk2).trans (hcell2 i hlt)
      rw [hki] at e1
      obtain ⟨x, hx⟩ : ∃ x, x = kl l i := ⟨_, rfl⟩
      rw [← hx] at e1 hki2
      have HX := Lib.hid hx
      clear hcell2 hki hx
      go_wp2_with fail
      refine (areJoined_is n _ lg k x _ HCI.out hk (by omega)).mono ?_
      rintro e w3 ⟨rfl, hb⟩
      have HB3 := Lib.hid (HBL.out.trans (hb.mono hz))
      clear hb c0 c1 hz e1
      cases hed : edB lg k x with
      | false =>
        have HT := Lib.hid (show ∀ i', i' < i + 1 → edB lg k (kl l i') = true → ∀ j, i' < j → j < l.length → edB lg k (kl l j) = true ∧ edB lg (kl l i') (kl l j) = true from fun i' h1 h2 => by
          rcases Nat.lt_or_ge i' i with h | h
          · exact HJ.out i' h h2
          · obtain rfl : i' = i := by omega
            rw [← HX.out, hed] at h2
            cases h2)
        clear hed
        go_wp2
        go_roundw
        case rel => exact ⟨i + 1, by omega, by go_num, HT.out, HB3.out⟩
        case measure => simp [intOf]; omega
      | true =>
        have HED := Lib.hid hed
        clear hed
        have HFIN : Hid ((∀ j, i < j → j < l.length → edB lg k (kl l j) = true ∧ edB lg x (kl l j) = true) → ∀ i', i' < i + 1 → edB lg k (kl l i') = true → ∀ j, i' < j → j < l.length → edB lg k (kl l j) = true ∧ edB lg (kl l i') (kl l j) = true) := fun hh i' h1 h2 => by
          rcases Nat.lt_or_ge i' i with h | h
          · exact HJ.out i' h h2
          · obtain rfl : i' = i := by omega
            rw [← HX.out]
            exact hh
        by_cases hcp : capl = i + 1
        · subst hcp
          have HT := Lib.hid (HFIN.out fun j h1 h2 => absurd h2 (by omega))
          go_wp2
          go_loopw [28] (fun c wr => c = .int .i64 0 ∧ wr = w3) (fun _ _ => 0)
          case atStart => exact ⟨rfl, rfl⟩
          case round =>
            obtain ⟨rfl, rfl⟩ := hrel
            go_wp2
            go_roundw
            case rel => exact ⟨i + 1, by omega, by go_num, HT.out, HB3.out⟩
            case measure => simp [intOf]; omega
        · go_wp2
          go_loopw [28] (fun c wr => ∃ j : Nat, i + 1 + j ≤ l.length ∧ c = .int .i64 j ∧ Hid (∀ j', i < j' → j' < i + 1 + j → edB lg k (kl l j') = true ∧ edB lg x (kl l j') = true) ∧ Below (w.heap.size + 1) (w.alloc (.cells #[.int .i64 n, .slice a lg.length cap] 28)) wr) (fun c _ => l.length - (i + 1) - (intOf c).toNat)
          case atStart => exact ⟨0, by omega, rfl, fun j' h1 h2 => absurd h2 (by omega), HB3.out⟩
          case round =>
            clear HCB HCI
            obtain ⟨j, hj, rfl, HJ2, hbel⟩ := hrel
            have HBL2 := Lib.hid hbel
            clear hbel HBL
            obtain ⟨c0, c1, cI, cB, hz⟩ := HA.out _ HBL2.out
            have HCI2 := Lib.hid cI
            have HCB2 := Lib.hid cB
            clear cI cB
            by_cases hlj : i + 1 + j < l.length
            · obtain ⟨hkj, hkj2⟩ := HO.out (i + 1 + j) hlj
              have e2 : _ = some (Value.int .i64 (nth l (i + 1 + j))) := (HCB2.out.cell (p := ⟨b2, off2 + (i + 1) + j, none⟩) hbk2).trans (by rw [Nat.add_assoc off2]; exact HC2.out (i + 1 + j) hlj)
              rw [hkj] at e2
              obtain ⟨y, hy⟩ : ∃ y, y = kl l (i + 1 + j) := ⟨_, rfl⟩
              rw [← hy] at e2 hkj2
              have HY := Lib.hid hy
              clear hkj hy
              go_wp2_with fail
              refine (areJoined_is n _ lg k y _ HCI2.out hk (by omega)).mono ?_
              rintro e w4 ⟨rfl, hb⟩
              have HB4 := Lib.hid (HBL2.out.trans (hb.mono hz))
              clear hb c0 c1 hz e2
              obtain ⟨c0, c1, cI, cB, hz⟩ := HA.out _ HB4.out
              have HCI4 := Lib.hid cI
              have HCB4 := Lib.hid cB
              clear cI cB
              cases hey : edB lg k y with
              | false =>
                have HN : Hid (¬ StayL lg l k) := fun hs => by
                  have := (hs i hlt (by rw [← HX.out]; exact HED.out) (i + 1 + j) (by omega) hlj).1
                  rw [← HY.out, hey] at this
                  cases this
                clear hey
                go_wp2
                go_ret
                exact SaysB.no HN.out HCB4.out
              | true =>
                have HEY := Lib.hid hey
                clear hey
                go_wp2_with fail
                refine (areJoined_is n _ lg x y _ HCI4.out hki2 (by omega)).mono ?_
                rintro e w5 ⟨rfl, hb⟩
                have HB5 := Lib.hid (HB4.out.trans (hb.mono hz))
                clear hb c0 c1 hz
                have HCB5 := Lib.hid (HA.out _ HB5.out).2.2.2.1
                cases hxy : edB lg x y with
                | false =>
                  have HN : Hid (¬ StayL lg l k) := fun hs => by
                    have := (hs i hlt (by rw [← HX.out]; exact HED.out) (i + 1 + j) (by omega) hlj).2
                    rw [← HY.out, ← HX.out, hxy] at this
                    cases this
                  clear hxy
                  go_wp2
                  go_ret
                  exact SaysB.no HN.out HCB5.out
                | true =>
                  have HT : Hid (∀ j', i < j' → j' < i + 1 + (j + 1) → edB lg k (kl l j') = true ∧ edB lg x (kl l j') = true) := fun j' h1 h2 => by
                    rcases Nat.lt_or_ge j' (i + 1 + j) with h | h
                    · exact HJ2.out j' h1 h
                    · obtain rfl : j' = i + 1 + j := by omega
                      rw [← HY.out]
                      exact ⟨HEY.out, hxy⟩
                  clear hxy
                  go_wp2
                  go_roundw
                  case rel => exact ⟨j + 1, by omega, by go_num, HT.out, HB5.out⟩
                  case measure => simp [intOf]; omega
            · have HT := Lib.hid (HFIN.out fun j' h1 h2 => HJ2.out j' h1 (by omega))
              go_wp2
              go_roundw
              case rel => exact ⟨i + 1, by omega, by go_num, HT.out, HBL2.out⟩
              case measure => simp [intOf]; omega
    · obtain rfl : i = l.length := by omega
      go_wp2
      go_ret
      exact SaysB.yes (fun i hi he j hij hj => HJ.out i hi he j hij hj) HCB.out

end Go.Proofs.Yteikiifjiapjaaa
