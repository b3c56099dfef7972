/- slices.Compare of rows of one length. -/
import Derived.Test.YtbmpljclplddeabGp
import Derived.Test.YtbmpljclplddeabGw
import Derived.Test.YtbmpljclplddeabB
namespace Go.Proofs.Ytbmpljclplddeab
set_option linter.unusedVariables false
set_option linter.unusedSimpArgs false
open Go.RowKit

def cmpV (x y : Int) : Int := if x < y then -1 else if y < x then 1 else 0

/-- At the first place where they differ, a has less. -/
def lexLt (a b : List Int) : Prop := ∃ k, k < a.length ∧ (∀ j, j < k → nth a j = nth b j) ∧ nth a k < nth b k

theorem isNaN_is (x : Int) (w : World) : Calls Try.prog 142 #[.int .i64 x] w (fun e w' => e = .returned (.bool false) ∧ Below w.heap.size w w') := by
  have d0 : (x != x) = false := by simp
  go_enter Try.func142, Try.ntmps142
  go_wp2
  go_ret
  exact ⟨rfl, Below.refl _ _⟩

set_option maxHeartbeats 1000000 in
theorem cmp_is (x y : Int) (w : World) : Calls Try.prog 139 #[.int .i64 x, .int .i64 y] w (SaysN (cmpV x y) w) := by
  obtain ⟨c, hc⟩ : ∃ c, c = cmpV x y := ⟨_, rfl⟩
  have HC := Lib.hid hc
  rw [← hc]
  clear hc
  go_enter Try.func139, Try.ntmps139
  go_wp2_with fail
  refine (isNaN_is x _).mono ?_
  rintro e w1 ⟨rfl, hb1⟩
  have H1 := Lib.hid hb1
  clear hb1
  go_wp2_with fail
  refine (isNaN_is y _).mono ?_
  rintro e w2 ⟨rfl, hb2⟩
  have H2 := Lib.hid (H1.out.trans (hb2.mono H1.out.size))
  clear hb2
  by_cases h1 : x < y
  · have d1 : decide (x < y) = true := decide_eq_true h1
    have E := Lib.hid (show c = -1 by rw [HC.out]; unfold cmpV; rw [if_pos h1])
    clear h1
    go_wp2
    go_ret
    exact ⟨by rw [E.out]; rfl, H2.out⟩
  · have d1 : decide (x < y) = false := decide_eq_false h1
    by_cases h2 : y < x
    · have d2 : decide (y < x) = true := decide_eq_true h2
      have E := Lib.hid (show c = 1 by rw [HC.out]; unfold cmpV; rw [if_neg h1, if_pos h2])
      clear h1 h2
      go_wp2
      go_ret
      exact ⟨by rw [E.out]; rfl, H2.out⟩
    · have d2 : decide (y < x) = false := decide_eq_false h2
      have E := Lib.hid (show c = 0 by rw [HC.out]; unfold cmpV; rw [if_neg h1, if_neg h2])
      clear h1 h2
      go_wp2
      go_ret
      exact ⟨by rw [E.out]; rfl, H2.out⟩

set_option maxHeartbeats 2000000 in
set_option maxRecDepth 100000 in
theorem slicesCmp (va vb : Value) (a b : List Int) (w : World) (ha : Ints w va a) (hb : Ints w vb b) (hl : a.length = b.length) (h7 : a.length ≤ 7) :
    Calls Try.prog 120 #[va, vb] w (fun e w' => ∃ r : Int, e = .returned (.int .i64 r) ∧ (r < 0 ↔ lexLt a b) ∧ Below w.heap.size w w') := by
  obtain ⟨ad, cap, rfl, -, -⟩ := ha.form
  obtain ⟨bd, cap', rfl, -, -⟩ := hb.form
  have HI := Lib.hid ha
  have HJ := Lib.hid hb
  clear ha hb
  have hle : a.length ≤ b.length := by omega
  have hge : b.length ≤ a.length := by omega
  have HL := Lib.hid hl
  clear hl
  go_enter Try.func120, Try.ntmps120
  go_wp2
  go_loopw [11] (fun i wr => ∃ j : Nat, j ≤ a.length ∧ i = .int .i64 j ∧ Below w.heap.size w wr ∧ Hid (∀ q, q < j → nth a q = nth b q)) (fun i _ => a.length - (intOf i).toNat)
  case atStart => exact ⟨0, by omega, rfl, Below.refl _ _, fun i hi => absurd hi (by omega)⟩
  case round =>
    obtain ⟨j, hj, rfl, hbel, HO⟩ := hrel
    have HB := Lib.hid hbel
    by_cases hlt : j < a.length
    · have hltb : j < b.length := by omega
      have hg0 : decide ((b.length : Int) ≤ (j : Int)) = false := decide_eq_false (by omega)
      obtain ⟨b1, off1, cap1, hv, _, _, hb1, hc1⟩ := (HI.out.on hbel).pos (by omega)
      simp only [Value.slice.injEq] at hv
      obtain ⟨rfl, -, rfl⟩ := hv
      obtain ⟨b2, off2, cap2, hv, _, _, hb2, hc2⟩ := (HJ.out.on hbel).pos (by omega)
      simp only [Value.slice.injEq] at hv
      obtain ⟨rfl, -, rfl⟩ := hv
      obtain ⟨x, hx⟩ : ∃ x, x = nth a j := ⟨_, rfl⟩
      obtain ⟨y, hy⟩ : ∃ y, y = nth b j := ⟨_, rfl⟩
      have c1 := hc1 j hlt
      have c2 := hc2 j hltb
      rw [← hx] at c1
      rw [← hy] at c2
      have HX := Lib.hid hx
      have HY := Lib.hid hy
      clear hc1 hc2 hx hy hbel
      go_wp2_with fail
      refine (cmp_is x y _).mono ?_
      rintro e w2 ⟨rfl, hb2⟩
      have HB2 := Lib.hid (HB.out.trans (hb2.mono HB.out.size))
      obtain ⟨c, hc⟩ : ∃ c, c = cmpV x y := ⟨_, rfl⟩
      rw [← hc]
      have HC := Lib.hid hc
      clear hb2 hc c1 c2
      by_cases h0 : c = 0
      · have d0 : (c != 0) = false := by rw [bne_eq_false_iff_eq]; exact h0
        have HN : Hid (∀ q, q < j + 1 → nth a q = nth b q) := fun q hq => by
          rcases Nat.lt_or_ge q j with h | h
          · exact HO.out q h
          · obtain rfl : q = j := by omega
            have h1 := HC.out
            rw [h0] at h1
            unfold cmpV at h1
            rw [← HX.out, ← HY.out]
            split at h1
            · cases h1
            · split at h1
              · cases h1
              · omega
        clear h0
        go_wp2
        go_roundw
        case rel => exact ⟨j + 1, by omega, by go_num, HB2.out, HN.out⟩
        case measure => simp [intOf]; omega
      · have d0 : (c != 0) = true := by rw [bne_iff_ne]; exact h0
        have HN : Hid (c < 0 ↔ lexLt a b) := by
          have h1 := HC.out
          unfold cmpV at h1
          constructor
          · intro hneg
            refine ⟨j, hlt, HO.out, ?_⟩
            rw [← HX.out, ← HY.out]
            split at h1
            · assumption
            · split at h1 <;> omega
          · rintro ⟨k, hk, he, hlt'⟩
            rcases Nat.lt_trichotomy k j with h | h | h
            · have := HO.out k h
              omega
            · subst h
              rw [← HX.out, ← HY.out] at hlt'
              rw [if_pos hlt'] at h1
              omega
            · have := he j h
              rw [← HX.out, ← HY.out] at this
              rw [if_neg (by omega), if_neg (by omega)] at h1
              exact absurd h1 h0
        clear h0
        go_wp2
        go_ret
        exact ⟨_, rfl, HN.out, HB2.out⟩
    · obtain rfl : j = a.length := by omega
      have d1 : decide ((a.length : Int) < (b.length : Int)) = false := decide_eq_false (by omega)
      have HN : Hid ((0 : Int) < 0 ↔ lexLt a b) := ⟨fun h => absurd h (by decide), fun ⟨k, hk, _, h⟩ => by have := HO.out k hk; omega⟩
      clear hbel
      go_wp2
      go_ret
      exact ⟨_, rfl, HN.out, HB.out⟩

end Go.Proofs.Ytbmpljclplddeab
