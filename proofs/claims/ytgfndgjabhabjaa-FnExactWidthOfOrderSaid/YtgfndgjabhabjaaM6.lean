/- IsPermutation. -/
import Derived.Test.YtgfndgjabhabjaaO1
import Derived.Test.YtgfndgjabhabjaaGl
namespace Go.Proofs.Ytgfndgjabhabjaa
set_option linter.unusedVariables false
set_option linter.unusedSimpArgs false
open Go.RowKit

/-- Each number below the length once. -/
def PermP (l : List Int) : Prop := 0 < l.length ∧ setOf l 0 = some (2 ^ l.length - 1)

instance (l : List Int) : Decidable (PermP l) := by unfold PermP; infer_instance

theorem pop_small {s : Int} (h0 : 0 ≤ s) (h1 : s < 128) : popN s.toNat ≤ 7 := pop_le (Nat.le_refl 7) (show s.toNat < 2 ^ 7 by omega)

theorem set_len {l : List Int} {s : Int} (hs : setOf l 0 = some s) : l.length ≤ 7 ∧ 0 ≤ s ∧ s < 128 := by
  have hp := setOf_pop l 0 s (by omega) (by omega) hs
  have h0 : popN (0 : Int).toNat = 0 := by decide
  obtain ⟨b0, b1, -, -⟩ := setOf_bits l 0 s (by omega) (by omega) hs
  have := pop_small b0 b1
  omega

set_option maxHeartbeats 1000000 in
set_option maxRecDepth 100000 in
theorem implPerm (v : Value) (l : List Int) (w : World) (h : Ints w v l) (hl : l.length ≤ 1048576) :
    Calls Try.prog 96 #[v] w (SaysB (PermP l) w) := by
  obtain ⟨a, cap, rfl, -, hm⟩ := h.form
  have HI := Lib.hid h
  unfold maxLen at hm
  clear h
  go_enter Try.func96, Try.ntmps96
  go_wp2_with fail
  refine (implSetOf _ l _ HI.out (by omega)).mono ?_
  rintro e w1 ⟨rfl, hb⟩
  have HB := Lib.hid hb
  clear hb
  cases hs : setOf l 0 with
  | none =>
    have HN := Lib.hid (show ¬ PermP l from fun h => by have h2 := h.2; rw [hs] at h2; cases h2)
    have b0 : outB (none : Option Int) = false := rfl
    clear hs
    go_wp2
    go_ret
    exact SaysB.no HN.out HB.out
  | some s =>
    have HS := Lib.hid hs
    have b0 : outB (some s) = true := rfl
    have b1 : outI (some s) = s := rfl
    have h7 := (set_len hs).1
    clear hs
    by_cases hc : 0 < l.length
    · have d0 : decide ((0 : Int) < (l.length : Int)) = true := decide_eq_true (by omega)
      obtain ⟨L, hL⟩ : ∃ L, L = l.length := ⟨_, rfl⟩
      obtain ⟨N, eN, hN1, hN2⟩ : ∃ N, (2 : Int) ^ L = N ∧ 1 ≤ N ∧ N ≤ 128 := ⟨_, rfl, (shl_one' L (by omega)).2.2.2.2, (shl_one' L (by omega)).2.2.2.1⟩
      have HL := Lib.hid hL
      have HP := Lib.hid (show PermP l ↔ s = N - 1 by
        unfold PermP
        rw [HS.out, ← hL, eN]
        exact ⟨fun h => Option.some.inj h.2, fun h => ⟨by omega, by rw [h]⟩⟩)
      have HEN := Lib.hid eN
      rw [← hL] at d0 hc h7 ⊢
      clear hL
      by_cases hq : s = N - 1
      · have q1 : (s == N - 1) = true := by simp [hq]
        have HQ := Lib.hid hq
        clear hq
        go_wp2
        go_ret
        exact SaysB.yes (HP.out.2 HQ.out) HB.out
      · have q1 : (s == N - 1) = false := by simp [hq]
        have HQ := Lib.hid hq
        clear hq
        go_wp2
        go_ret
        exact SaysB.no (fun h => HQ.out (HP.out.1 h)) HB.out
    · have d0 : decide ((0 : Int) < (l.length : Int)) = false := decide_eq_false (by omega)
      have HC := Lib.hid hc
      clear hc
      go_wp2
      go_ret
      exact SaysB.no (fun h => HC.out h.1) HB.out

set_option maxHeartbeats 1000000 in
set_option maxRecDepth 100000 in
theorem specPerm (v : Value) (l : List Int) (w : World) (h : Ints w v l) (hl : l.length ≤ 1048576) :
    Calls Try.prog 94 #[v] w (SaysB (PermP l) w) := by
  obtain ⟨a, cap, rfl, -, hm⟩ := h.form
  have HI := Lib.hid h
  unfold maxLen at hm
  clear h
  go_enter Try.func94, Try.ntmps94
  go_wp2_with fail
  refine (specSetOf _ l _ HI.out (by omega)).mono ?_
  rintro e w1 ⟨rfl, hb⟩
  have HB := Lib.hid hb
  clear hb
  cases hs : setOf l 0 with
  | none =>
    have HN := Lib.hid (show ¬ PermP l from fun h => by have h2 := h.2; rw [hs] at h2; cases h2)
    have b0 : outB (none : Option Int) = false := rfl
    clear hs
    go_wp2
    go_ret
    exact SaysB.no HN.out HB.out
  | some s =>
    have HS := Lib.hid hs
    have b0 : outB (some s) = true := rfl
    have b1 : outI (some s) = s := rfl
    have h7 := (set_len hs).1
    clear hs
    by_cases hc : 0 < l.length
    · obtain ⟨L, hL⟩ : ∃ L, L = l.length := ⟨_, rfl⟩
      obtain ⟨N, eN, hN1, hN2⟩ : ∃ N, (2 : Int) ^ L = N ∧ 1 ≤ N ∧ N ≤ 128 := ⟨_, rfl, (shl_one' L (by omega)).2.2.2.2, (shl_one' L (by omega)).2.2.2.1⟩
      have HL := Lib.hid hL
      have HP := Lib.hid (show PermP l ↔ s = N - 1 by
        unfold PermP
        rw [HS.out, ← hL, eN]
        exact ⟨fun h => Option.some.inj h.2, fun h => ⟨by omega, by rw [h]⟩⟩)
      have HEN := Lib.hid eN
      rw [← hL] at hc h7 ⊢
      clear hL
      go_wp2_with fail
      refine (l1In_yes' _ _ _ _ (by omega) (by omega)).mono ?_
      rintro e w2 ⟨rfl, rfl⟩
      by_cases hq : s = N - 1
      · have q1 : (s == N - 1) = true := by simp [hq]
        have HQ := Lib.hid hq
        clear hq
        go_wp2
        go_ret
        exact SaysB.yes (HP.out.2 HQ.out) HB.out
      · have q1 : (s == N - 1) = false := by simp [hq]
        have HQ := Lib.hid hq
        clear hq
        go_wp2
        go_ret
        exact SaysB.no (fun h => HQ.out (HP.out.1 h)) HB.out
    · have HC := Lib.hid hc
      go_wp2_with fail
      refine (l1In_no' _ _ _ _ (by omega)).mono ?_
      rintro e w2 ⟨rfl, rfl⟩
      clear hc
      go_wp2
      go_ret
      exact SaysB.no (fun h => HC.out h.1) HB.out

end Go.Proofs.Ytgfndgjabhabjaa
