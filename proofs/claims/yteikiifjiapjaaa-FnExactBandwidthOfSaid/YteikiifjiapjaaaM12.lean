/- IsUmbrella. -/
import Derived.Test.YteikiifjiapjaaaM3
import Derived.Test.YteikiifjiapjaaaQ
namespace Go.Proofs.Yteikiifjiapjaaa
set_option linter.unusedVariables false
set_option linter.unusedSimpArgs false
open Go.RowKit

def umbT (lg l : List Int) (i j k : Nat) : Prop := edB lg (kl l i) (kl l k) = true → edB lg (kl l i) (kl l j) = true ∧ edB lg (kl l j) (kl l k) = true

instance (lg l : List Int) (i j k : Nat) : Decidable (umbT lg l i j k) := by unfold umbT; infer_instance

/-- Neighbours have everything between them as neighbours. -/
def UmbP (lg l : List Int) : Prop := ∀ k, k < l.length → ∀ j, j < k → ∀ i, i < j → umbT lg l i j k

instance (lg l : List Int) : Decidable (UmbP lg l) := by unfold UmbP; infer_instance

def UmbR (n : Int) (lg l : List Int) : Prop := OrdP n lg l ∧ UmbP lg l

instance (n : Int) (lg l : List Int) : Decidable (UmbR n lg l) := by unfold UmbR; infer_instance

/-- What is asked of the vertex at place k. -/
def StayP (lg l : List Int) (k : Nat) : Prop := ∀ i, i < k → edB lg (kl l k) (kl l i) = true → ∀ j, i < j → j < k → edB lg (kl l k) (kl l j) = true ∧ edB lg (kl l i) (kl l j) = true

theorem edB_sym {n : Int} {lg : List Int} (hg : IsG n lg) {i j : Nat} (hi : i < lg.length) (hj : j < lg.length) : edB lg i j = edB lg j i := by
  unfold edB
  rw [hg.sym hi hj]

theorem umb_stay {n : Int} {lg l : List Int} (h : OrdP n lg l) : UmbP lg l ↔ ∀ k, k < l.length → StayP lg l k := by
  have hg := h.graph
  have hk : ∀ i, i < l.length → kl l i < lg.length := fun i hi => (h.1.at hi).2.1
  refine ⟨fun hu k hkl i hi he j hij hjk => ?_, fun hs k hkl j hj i hij he => ?_⟩
  · have := hu k hkl j hjk i hij (by rw [edB_sym hg (hk i (by omega)) (hk k hkl)]; exact he)
    exact ⟨by rw [edB_sym hg (hk k hkl) (hk j (by omega))]; exact this.2, this.1⟩
  · have := hs k hkl i (by omega) (by rw [edB_sym hg (hk k hkl) (hk i (by omega))]; exact he) j hij hj
    exact ⟨this.2, by rw [edB_sym hg (hk j (by omega)) (hk k hkl)]; exact this.1⟩

set_option maxHeartbeats 8000000 in
set_option maxRecDepth 100000 in
theorem spec12UmbV (n : Int) (v vl : Value) (lg l : List Int) (w : World) (h : Ints w v lg) (hl : Ints w vl l) (hat : ∀ i, i < l.length → nth l i = (kl l i : Int) ∧ kl l i < lg.length ∧ kl l i < 7) (hl7 : l.length ≤ 7) :
    Calls Try.prog 92 #[.agg #[.int .i64 n, v], vl] w (SaysB (UmbP lg l) w) := by
  obtain ⟨a, cap, rfl, -, -⟩ := h.form
  obtain ⟨al, capl, rfl, -, hml⟩ := hl.form
  have HA := argG' (T := 28) (n := n) h
  have HL := Lib.hid hl
  have HAT := Lib.hid hat
  clear h hl hat
  go_enter Try.func92, Try.ntmps92
  go_wp2
  go_loopw [5] (fun x wr => ∃ i : Nat, i ≤ l.length ∧ x = .int .i64 i ∧ Hid (∀ i', i' < i → ∀ k, k < l.length → ∀ j, i' < j → j < k → umbT lg l i' j k) ∧ Below (w.heap.size + 1) (w.alloc (.cells #[.int .i64 n, .slice a lg.length cap] 28)) wr) (fun x _ => l.length - (intOf x).toNat)
  case atStart => exact ⟨0, by omega, rfl, fun i hi => absurd hi (by omega), Below.refl _ _⟩
  case round =>
    obtain ⟨i, hi, rfl, HJ1, hbel⟩ := hrel
    have HBL := Lib.hid hbel
    clear hbel
    by_cases hlt : i < l.length
    · have u1 : IntKind.i64.wrap ((i : Int) + 2) = (i : Int) + 2 := IntWalk.i64_in _ (by omega)
      have HLT := Lib.hid hlt
      go_wp2
      clear u1
      go_loopw [6] (fun x wr => ∃ k : Nat, i + 2 ≤ k ∧ k ≤ l.length + 1 ∧ (k ≤ l.length ∨ k = i + 2) ∧ x = .int .i64 k ∧ Hid (∀ k', k' < k → k' < l.length → ∀ j, i < j → j < k' → umbT lg l i j k') ∧ Below (w.heap.size + 1) (w.alloc (.cells #[.int .i64 n, .slice a lg.length cap] 28)) wr) (fun x _ => l.length - (intOf x).toNat)
      case atStart => exact ⟨i + 2, by omega, by omega, .inr rfl, by go_num, fun k' h1 h2 j h3 h4 => absurd h4 (by omega), HBL.out⟩
      case round =>
        clear HBL
        obtain ⟨k, hk0, hk1, hk2, rfl, HJ2, hbel⟩ := hrel
        have HBL := Lib.hid hbel
        clear hbel
        by_cases hlk : k < l.length
        · have HLK := Lib.hid hlk
          go_wp2
          go_loopw [7] (fun x wr => ∃ j : Nat, i + 1 ≤ j ∧ j ≤ k ∧ x = .int .i64 j ∧ Hid (∀ j', j' < j → i < j' → umbT lg l i j' k) ∧ Below (w.heap.size + 1) (w.alloc (.cells #[.int .i64 n, .slice a lg.length cap] 28)) wr) (fun x _ => k - (intOf x).toNat)
          case atStart => exact ⟨i + 1, by omega, by omega, by go_num, fun j' h1 h2 => absurd h1 (by omega), HBL.out⟩
          case round =>
            clear HBL
            obtain ⟨j, hj0, hj1, rfl, HJ3, hbel⟩ := hrel
            have HBL := Lib.hid hbel
            clear hbel
            by_cases hlj : j < k
            · obtain ⟨-, -, -, cB, hz⟩ := HA.out _ HBL.out
              have HCB := Lib.hid cB
              clear cB
              obtain ⟨b2, off2, capl', hv, hc2, hmx2, hbk2, -⟩ := (HL.out.on HCB.out).pos (by omega)
              simp only [Value.slice.injEq] at hv
              obtain ⟨rfl, -, rfl⟩ := hv
              obtain ⟨-, p1, p2⟩ := HAT.out i (by omega)
              obtain ⟨-, p3, p4⟩ := HAT.out j (by omega)
              obtain ⟨-, p5, p6⟩ := HAT.out k hlk
              have HX : Hid (∀ X : Since wr, ArgG 28 w n (.slice a lg.length cap) lg X.val ∧ X.val.cell? ⟨b2, off2 + i, none⟩ = some (.int .i64 (kl l i)) ∧ X.val.cell? ⟨b2, off2 + j, none⟩ = some (.int .i64 (kl l j)) ∧ X.val.cell? ⟨b2, off2 + k, none⟩ = some (.int .i64 (kl l k))) := fun X => by
                refine ⟨HA.out _ (HBL.out.trans (X.prop.mono hz)), ?_⟩
                obtain ⟨b', off', cap', hv, _, _, _, hcell⟩ := ((HL.out.on HCB.out).on X.prop).pos (by omega)
                simp only [Value.slice.injEq, Option.some.injEq, Addr.mk.injEq, and_true] at hv
                obtain ⟨⟨rfl, rfl⟩, -, -⟩ := hv
                exact ⟨by rw [hcell i (by omega), (HAT.out i (by omega)).1], by rw [hcell j (by omega), (HAT.out j (by omega)).1], by rw [hcell k hlk, (HAT.out k hlk).1]⟩
              have HRD : Hid (umbT lg l i j k → ∀ j', j' < j + 1 → i < j' → umbT lg l i j' k) := fun hh j' h1 h2 => by
                rcases Nat.lt_or_ge j' j with h | h
                · exact HJ3.out j' h h2
                · obtain rfl : j' = j := by omega
                  exact hh
              have HNO : Hid (¬ umbT lg l i j k → ¬ UmbP lg l) := fun hh hu => hh (hu k hlk j hlj i (by omega))
              have HUT : Hid (umbT lg l i j k ↔ (edB lg (kl l i) (kl l k) = true → edB lg (kl l i) (kl l j) = true ∧ edB lg (kl l j) (kl l k) = true)) := Iff.rfl
              obtain ⟨x, hx⟩ : ∃ x, x = kl l i := ⟨_, rfl⟩
              obtain ⟨y, hy⟩ : ∃ y, y = kl l j := ⟨_, rfl⟩
              obtain ⟨z, hz'⟩ : ∃ z, z = kl l k := ⟨_, rfl⟩
              rw [← hx] at HX HUT p1 p2
              rw [← hy] at HX HUT p3 p4
              rw [← hz'] at HX HUT p5 p6
              clear hx hy hz'
              have hx0 : ∀ X : Since wr, X.val.cell? ⟨w.heap.size, 0, none⟩ = some (.int .i64 n) := fun X => (HX.out X).1.1
              have hx1 : ∀ X : Since wr, X.val.cell? ⟨w.heap.size, 1, none⟩ = some (.slice a lg.length cap) := fun X => (HX.out X).1.2.1
              have hx2 : ∀ X : Since wr, X.val.cell? ⟨b2, off2 + i, none⟩ = some (.int .i64 x) := fun X => (HX.out X).2.1
              have hx3 : ∀ X : Since wr, X.val.cell? ⟨b2, off2 + j, none⟩ = some (.int .i64 y) := fun X => (HX.out X).2.2.1
              have hx4 : ∀ X : Since wr, X.val.cell? ⟨b2, off2 + k, none⟩ = some (.int .i64 z) := fun X => (HX.out X).2.2.2
              have HC : Hid (∀ (b : Bool) (s t : Nat), edB lg s t = b → s < lg.length → t < 7 → ∀ X : Since wr, Calls Try.prog 95 #[.agg #[.int .i64 n, .slice a lg.length cap], .int .i64 s, .int .i64 t] X.val fun e w' => e = .returned (.bool b) ∧ Below X.val.heap.size X.val w') := fun b s t hb hs ht X => by rw [← hb]; exact l2Edge_is n _ lg s t _ (HX.out X).1.2.2.1 hs (by omega)
              have HBN := Lib.hid hz
              unfold maxLen at hmx2
              clear hc2 hbk2 hz
              go_wp2
              refine wp_region_since (by kernel_rfl) (by kernel_rfl) ?_
              cases h1 : edB lg x z with
              | false =>
                have HC1 := Lib.hid (HC.out _ _ _ h1 p1 p6)
                have HT := Lib.hid (HRD.out (HUT.out.2 fun h => absurd (h1.symm.trans h) (by decide)))
                clear h1
                repeat (go_big_quiet_step (with_reducible exact since_call (HC1.out _)))
                refine wpQuiet_nil ?_
                intro X
                have HB3 := Lib.hid (HBL.out.trans (X.prop.mono HBN.out))
                clear hx0 hx1 hx2 hx3 hx4
                go_wp2
                go_roundw
                case rel => exact ⟨j + 1, by omega, by omega, by go_num, HT, HB3.out⟩
                case measure => simp [intOf]; omega
              | true =>
                have HC1 := Lib.hid (HC.out _ _ _ h1 p1 p6)
                cases h2 : edB lg x y with
                | false =>
                  have HC2 := Lib.hid (HC.out _ _ _ h2 p1 p4)
                  have HT := Lib.hid (HNO.out fun h => absurd (h2.symm.trans (HUT.out.1 h h1).1) (by decide))
                  clear h1 h2
                  repeat (go_big_quiet_step (first | with_reducible exact since_call (HC1.out _) | with_reducible exact since_call (HC2.out _)))
                  refine wpQuiet_nil ?_
                  intro X
                  have HW := Lib.hid (HX.out X).1.2.2.2.1
                  clear hx0 hx1 hx2 hx3 hx4
                  go_wp2
                  go_ret
                  exact SaysB.no HT.out HW.out
                | true =>
                  have HC2 := Lib.hid (HC.out _ _ _ h2 p1 p4)
                  cases h3 : edB lg y z with
                  | false =>
                    have HC3 := Lib.hid (HC.out _ _ _ h3 p3 p6)
                    have HT := Lib.hid (HNO.out fun h => absurd (h3.symm.trans (HUT.out.1 h h1).2) (by decide))
                    clear h1 h2 h3
                    repeat (go_big_quiet_step (first | with_reducible exact since_call (HC1.out _) | with_reducible exact since_call (HC2.out _) | with_reducible exact since_call (HC3.out _)))
                    refine wpQuiet_nil ?_
                    intro X
                    have HW := Lib.hid (HX.out X).1.2.2.2.1
                    clear hx0 hx1 hx2 hx3 hx4
                    go_wp2
                    go_ret
                    exact SaysB.no HT.out HW.out
                  | true =>
                    have HC3 := Lib.hid (HC.out _ _ _ h3 p3 p6)
                    have HT := Lib.hid (HRD.out (HUT.out.2 fun _ => ⟨h2, h3⟩))
                    clear h1 h2 h3
                    repeat (go_big_quiet_step (first | with_reducible exact since_call (HC1.out _) | with_reducible exact since_call (HC2.out _) | with_reducible exact since_call (HC3.out _)))
                    refine wpQuiet_nil ?_
                    intro X
                    have HB3 := Lib.hid (HBL.out.trans (X.prop.mono HBN.out))
                    clear hx0 hx1 hx2 hx3 hx4
                    go_wp2
                    go_roundw
                    case rel => exact ⟨j + 1, by omega, by omega, by go_num, HT, HB3.out⟩
                    case measure => simp [intOf]; omega
            · obtain rfl : j = k := by omega
              have HT : Hid (∀ k', k' < j + 1 → k' < l.length → ∀ j', i < j' → j' < k' → umbT lg l i j' k') := fun k' h1 h2 j' h3 h4 => by
                rcases Nat.lt_or_ge k' j with h | h
                · exact HJ2.out k' h h2 j' h3 h4
                · obtain rfl : k' = j := by omega
                  exact HJ3.out j' h4 h3
              go_wp2
              go_roundw
              case rel => exact ⟨j + 1, by omega, by omega, .inl (by omega), by go_num, HT, HBL.out⟩
              case measure => simp [intOf]; omega
        · have HT : Hid (∀ i', i' < i + 1 → ∀ k, k < l.length → ∀ j, i' < j → j < k → umbT lg l i' j k) := fun i' h1 k' h2 j' h3 h4 => by
            rcases Nat.lt_or_ge i' i with h | h
            · exact HJ1.out i' h k' h2 j' h3 h4
            · obtain rfl : i' = i := by omega
              exact HJ2.out k' (by omega) h2 j' h3 h4
          go_wp2
          go_roundw
          case rel => exact ⟨i + 1, by omega, by go_num, HT, HBL.out⟩
          case measure => simp [intOf]; omega
    · obtain rfl : i = l.length := by omega
      have HCB := Lib.hid (HA.out _ HBL.out).2.2.2.1
      go_wp2
      go_ret
      exact SaysB.yes (fun k hk j hj i hij => HJ1.out i (by omega) k hk j hij hj) HCB.out

theorem spec12Umb (n : Int) (v vl : Value) (lg l : List Int) (w : World) (h : Ints w v lg) (hl : Ints w vl l) (ho : OrdP n lg l) :
    Calls Try.prog 92 #[.agg #[.int .i64 n, v], vl] w (SaysB (UmbP lg l) w) :=
  spec12UmbV n v vl lg l w h hl (fun i hi => ho.1.at hi) (by have := ho.len; omega)

end Go.Proofs.Yteikiifjiapjaaa
