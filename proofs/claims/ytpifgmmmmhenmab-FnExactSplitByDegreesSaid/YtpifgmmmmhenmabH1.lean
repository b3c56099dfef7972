/- Walks over IsSet and SetOf. -/
import Derived.Test.YtpifgmmmmhenmabG4
import Derived.Test.YtpifgmmmmhenmabGq
import Derived.Test.YtpifgmmmmhenmabGl
namespace Go.Proofs.Ytpifgmmmmhenmab
set_option linter.unusedVariables false
set_option linter.unusedSimpArgs false
open Go.RowKit

/-- A set of vertices of a graph. -/
def IsS (n : Int) (l : List Int) (x : Int) : Prop := IsG n l ∧ 0 ≤ x ∧ x < 2 ^ n.toNat

theorem allVertices_is (n : Int) (v : Value) (l : List Int) (w : World) (h : Ints w v l) (h1 : 1 ≤ n) (h7 : n ≤ 7) :
    Calls Try.prog 107 #[.agg #[.int .i64 n, v]] w fun e w' => e = .returned (.int .i64 (2 ^ n.toNat - 1)) ∧ Below w.heap.size w w' := by
  obtain ⟨a, cap, rfl, -, -⟩ := h.form
  clear h
  obtain ⟨-, -, -, s4, s5⟩ := shl_one n (by omega) h7
  obtain ⟨N, eN, hN1, hN2⟩ : ∃ N, (2 : Int) ^ n.toNat = N ∧ 1 ≤ N ∧ N ≤ 128 := ⟨_, rfl, by omega, s4⟩
  rw [eN]
  clear s4 s5
  go_enter Try.func107, Try.ntmps107
  go_wp2
  go_ret
  exact ⟨rfl, (Below.refl _ w).alloc (Nat.le_refl _) _⟩

set_option maxHeartbeats 1000000 in
theorem implIsSet (n : Int) (v : Value) (l : List Int) (x : Int) (w : World) (h : Ints w v l) :
    Calls Try.prog 118 #[.agg #[.int .i64 n, v], .int .i64 x] w (SaysB (IsS n l x) w) := by
  obtain ⟨a, cap, rfl, -, -⟩ := h.form
  have HA := argG' (T := 27) (n := n) h
  have HI := Lib.hid h
  clear h
  go_enter Try.func118, Try.ntmps118
  go_wp2_with fail
  refine (implIsG_any n _ l _ (HI.out.alloc _)).mono ?_
  rintro e w1 ⟨r, rfl, hr, hb⟩
  have HB := Lib.hid (hb.mono (B' := w.heap.size + 1) (by simp))
  clear hb
  obtain ⟨c0, c1, -, -, hz⟩ := HA.out _ HB.out
  cases r with
  | false =>
    have hno : ¬ IsG n l := by simpa using hr
    have HN := Lib.hid hno
    clear hr hno
    go_wp2
    go_ret
    exact SaysB.no (fun hg => HN.out hg.1) (HA.out _ HB.out).2.2.2.1
  | true =>
    have HG := Lib.hid (hr.1 rfl)
    clear hr
    by_cases hx0 : 0 ≤ x
    · have dx0 : decide (0 ≤ x) = true := by simp [hx0]
      go_wp2_with fail
      refine (allVertices_is n _ l _ (HA.out _ HB.out).2.2.1 HG.out.1 HG.out.2.1).mono ?_
      rintro e w2 ⟨rfl, hb⟩
      have HB2 := Lib.hid (HB.out.trans (hb.mono hz))
      clear hb c0 c1 hz
      obtain ⟨N, eN⟩ : ∃ N, (2 : Int) ^ n.toNat = N := ⟨_, rfl⟩
      have HE := Lib.hid eN
      rw [eN]
      clear eN
      by_cases hx1 : x ≤ N - 1
      · have dx1 : decide (x ≤ N - 1) = true := by simp [hx1]
        go_wp2
        go_ret
        exact ⟨_, rfl, ⟨fun _ => ⟨HG.out, hx0, by rw [HE.out]; omega⟩, fun _ => by simp <;> omega⟩, (HA.out _ HB2.out).2.2.2.1⟩
      · have dx1 : decide (x ≤ N - 1) = false := by simp; omega
        go_wp2
        go_ret
        exact ⟨_, rfl, ⟨fun h => by simp at h <;> omega, fun h => by have := h.2.2; rw [HE.out] at this; omega⟩, (HA.out _ HB2.out).2.2.2.1⟩
    · have dx0 : decide (0 ≤ x) = false := by simp; omega
      go_wp2
      go_ret
      exact SaysB.no (fun hg => by have := hg.2.1; omega) (HA.out _ HB.out).2.2.2.1

set_option maxHeartbeats 1000000 in
theorem specIsSet (n : Int) (v : Value) (l : List Int) (x : Int) (w : World) (h : Ints w v l) :
    Calls Try.prog 95 #[.agg #[.int .i64 n, v], .int .i64 x] w (SaysB (IsS n l x) w) := by
  obtain ⟨a, cap, rfl, -, -⟩ := h.form
  have HA := argG' (T := 27) (n := n) h
  have HI := Lib.hid h
  clear h
  go_enter Try.func95, Try.ntmps95
  go_wp2_with fail
  refine (specIsG_any n _ l _ (HI.out.alloc _)).mono ?_
  rintro e w1 ⟨r, rfl, hr, hb⟩
  have HB := Lib.hid (hb.mono (B' := w.heap.size + 1) (by simp))
  clear hb
  obtain ⟨c0, c1, -, -, hz⟩ := HA.out _ HB.out
  cases r with
  | false =>
    have hno : ¬ IsG n l := by simpa using hr
    have HN := Lib.hid hno
    clear hr hno
    go_wp2
    go_ret
    exact SaysB.no (fun hg => HN.out hg.1) (HA.out _ HB.out).2.2.2.1
  | true =>
    have HG := Lib.hid (hr.1 rfl)
    have hn1 := HG.out.1
    have hn7 := HG.out.2.1
    clear hr
    by_cases hx0 : 0 ≤ x
    · have dx0 : decide (0 ≤ x) = true := by simp [hx0]
      obtain ⟨-, -, -, s4, s5⟩ := shl_one n (by omega) hn7
      obtain ⟨N, eN, hN1, hN2⟩ : ∃ N, (2 : Int) ^ n.toNat = N ∧ 1 ≤ N ∧ N ≤ 128 := ⟨_, rfl, by omega, s4⟩
      have HE := Lib.hid eN
      clear s4 s5
      by_cases hx1 : x < N
      · have dx1 : decide (x < N) = true := by simp [hx1]
        go_wp2
        go_ret
        exact SaysB.yes ⟨HG.out, hx0, by rw [HE.out]; exact hx1⟩ (HA.out _ HB.out).2.2.2.1
      · have dx1 : decide (x < N) = false := by simp; omega
        go_wp2
        go_ret
        exact SaysB.no (fun h => by have := h.2.2; rw [HE.out] at this; omega) (HA.out _ HB.out).2.2.2.1
    · have dx0 : decide (0 ≤ x) = false := by simp; omega
      go_wp2
      go_ret
      exact SaysB.no (fun hg => by have := hg.2.1; omega) (HA.out _ HB.out).2.2.2.1

end Go.Proofs.Ytpifgmmmmhenmab
