/- spec.AvoidingPath at any arguments. -/
import Derived.Test.YtgfndgjabhabjacDoorAt
namespace Go.Proofs.YtgfndgjabhabjacDoor
set_option linter.unusedVariables false
set_option linter.unusedSimpArgs false
open Go.RowKit

set_option maxHeartbeats 2000000 in
set_option maxRecDepth 100000 in
theorem avo_not (n : Int) (v : Value) (lg : List Int) (a b c : Int) (w : World) (h : Ints w v lg) (hno : ¬ AvoOk n lg a b c) :
    Calls Tryd.prog 29 #[.agg #[.int .i64 n, v], .int .i64 a, .int .i64 b, .int .i64 c] w (GetsLB w.heap.size w none) := by
  obtain ⟨ad, cap, rfl, -, -⟩ := h.form
  have HI := Lib.hid h
  have HA := argG' (T := 29) (n := n) h
  have HNO := Lib.hid hno
  have b0 : outS (none : Option (List Int)) = false := rfl
  clear h hno
  go_enter Tryd.func29, Tryd.ntmps29
  go_wp2_with fail
  refine (specIsG_any n _ lg _ (HI.out.alloc _)).mono ?_
  rintro e w1 ⟨r, rfl, hr, hb⟩
  have HB1 := Lib.hid (hb.mono (B' := w.heap.size + 1) (by simp))
  have HRR := Lib.hid hr
  clear hb hr
  obtain ⟨c0, c1, -, cB, cz⟩ := HA.out _ HB1.out
  have HCB := Lib.hid cB
  have HE := Lib.hid (OwnI.lit0 w1 w.heap.size cB.size)
  have HW := Lib.hid (cB.alloc cB.size (.cells #[] 3))
  clear cB
  cases r with
  | false =>
    go_wp2
    go_ret2
    exact ⟨_, rfl, HE.out, HW.out⟩
  | true =>
    have HG := Lib.hid (HRR.out.1 (by first | rfl | trivial))
    have hn1 := HG.out.1
    have hn7 := HG.out.2.1
    have u1 : IntKind.i64.wrap (n - 1) = n - 1 := IntWalk.i64_in _ (by omega)
    by_cases hva : 0 ≤ a ∧ a < n
    · go_wp2_with fail
      refine (l1In_yes' a 0 (n - 1) _ (by omega) (by omega)).mono ?_
      rintro e w2 ⟨rfl, rfl⟩
      by_cases hvb : 0 ≤ b ∧ b < n
      · go_wp2_with fail
        refine (l1In_yes' b 0 (n - 1) _ (by omega) (by omega)).mono ?_
        rintro e w3 ⟨rfl, rfl⟩
        have hvc : ¬ (0 ≤ c ∧ c ≤ n - 1) := fun h => HNO.out ⟨HG.out, hva, hvb, h.1, by omega⟩
        go_wp2_with fail
        refine (l1In_no' c 0 (n - 1) _ hvc).mono ?_
        rintro e w4 ⟨rfl, rfl⟩
        go_wp2
        go_ret2
        exact ⟨_, rfl, HE.out, HW.out⟩
      · have hvb2 : ¬ (0 ≤ b ∧ b ≤ n - 1) := by omega
        go_wp2_with fail
        refine (l1In_no' b 0 (n - 1) _ hvb2).mono ?_
        rintro e w3 ⟨rfl, rfl⟩
        go_wp2
        go_ret2
        exact ⟨_, rfl, HE.out, HW.out⟩
    · have hva2 : ¬ (0 ≤ a ∧ a ≤ n - 1) := by omega
      go_wp2_with fail
      refine (l1In_no' a 0 (n - 1) _ hva2).mono ?_
      rintro e w2 ⟨rfl, rfl⟩
      go_wp2
      go_ret2
      exact ⟨_, rfl, HE.out, HW.out⟩

theorem specAvo (n : Int) (v : Value) (lg : List Int) (a b c : Int) (w : World) (h : Ints w v lg) :
    Calls Tryd.prog 29 #[.agg #[.int .i64 n, v], .int .i64 a, .int .i64 b, .int .i64 c] w (GetsLB w.heap.size w (avoR n lg a b c)) := by
  by_cases hok : AvoOk n lg a b c
  · obtain ⟨hg, ha, hb, hc⟩ := hok
    obtain ⟨A, rfl⟩ := Int.eq_ofNat_of_zero_le ha.1
    obtain ⟨B, rfl⟩ := Int.eq_ofNat_of_zero_le hb.1
    obtain ⟨C, rfl⟩ := Int.eq_ofNat_of_zero_le hc.1
    have hnl := hg.2.2.1
    have := avo_rest n v lg A B C w h hg (by omega) (by omega) (by omega)
    unfold avoR
    rw [if_pos ⟨hg, ha, hb, hc⟩]
    simpa only [Int.toNat_natCast] using this
  · have := avo_not n v lg a b c w h hok
    unfold avoR
    rw [if_neg hok]
    exact this

theorem wayR_len (R : Nat → Nat) (S a b N : Nat) (hN : N ≤ 7) : (outL (wayR R S a b N)).length ≤ 7 := by
  unfold wayR
  split
  · cases h : farK R S b N a with
    | none => simp [outL]
    | some k =>
      have := (far_some.1 h).1
      simp only [outL, wayL_length]
      omega
  · simp [outL]

theorem avoR_len (n : Int) (l : List Int) (a b c : Int) : (outL (avoR n l a b c)).length ≤ 7 := by
  unfold avoR
  split
  · rename_i h
    exact wayR_len _ _ _ _ _ (by have := h.1.2.1; have := h.1.2.2.1; omega)
  · simp [outL]

/-- A way avoids its third vertex: that one differs from both ends. -/
theorem avo_ne {n : Int} {l : List Int} {a b c : Int} (h : outS (avoR n l a b c) = true) : a ≠ c ∧ b ≠ c := by
  unfold avoR at h
  by_cases hok : AvoOk n l a b c
  · rw [if_pos hok] at h
    obtain ⟨hg, ha, hb, hc⟩ := hok
    obtain ⟨A, rfl⟩ := Int.eq_ofNat_of_zero_le ha.1
    obtain ⟨B, rfl⟩ := Int.eq_ofNat_of_zero_le hb.1
    obtain ⟨C, rfl⟩ := Int.eq_ofNat_of_zero_le hc.1
    simp only [Int.toNat_natCast] at h
    have hnl := hg.2.2.1
    have hC : C < l.length := by omega
    have hm7 : l.length ≤ 7 := by have := hg.2.1; omega
    have hno : (awayN l C).testBit C = false := by
      have hX : 2 ^ C < 2 ^ l.length := Nat.pow_lt_pow_right (by decide) hC
      have hA := around_lt hg hX
      have h128 := two_le _ hm7
      have hS : Sub (aroundN (rowN l) (2 ^ C)) (2 ^ l.length - 1) := fun i hi => by
        have := bit_lt hA hi
        rw [Nat.testBit_two_pow_sub_one]
        exact decide_eq_true this
      have hCa : (aroundN (rowN l) (2 ^ C)).testBit C = true := (aroundN_bit _ _ _).2 (.inl (Nat.testBit_two_pow_self ..))
      have hp : 0 < 2 ^ l.length := Nat.pow_pos (by decide)
      cases hb : (awayN l C).testBit C with
      | false => rfl
      | true =>
        have := (minus_bit (by omega) hS C).1 hb
        rw [hCa] at this
        exact absurd this.2 (by decide)
    unfold wayR at h
    split at h
    · rename_i hs
      refine ⟨fun e => ?_, fun e => ?_⟩
      · have : A = C := by exact_mod_cast e
        rw [this, hno] at hs
        exact absurd hs.1 (by decide)
      · have : B = C := by exact_mod_cast e
        rw [this, hno] at hs
        exact absurd hs.2 (by decide)
    · cases h
  · rw [if_neg hok] at h; cases h

end Go.Proofs.YtgfndgjabhabjacDoor
