/- slices.Contains. -/
import Derived.Test.YteikiifjiapjaaaGl
import Derived.Test.YteikiifjiapjaaaGw
import Derived.Test.YteikiifjiapjaaaP1
namespace Go.Proofs.Yteikiifjiapjaaa
set_option linter.unusedVariables false
set_option linter.unusedSimpArgs false
open Go.RowKit

set_option maxHeartbeats 1000000 in
theorem slicesIndex (v : Value) (l : List Int) (x : Int) (w : World) (h : Ints w v l) (hl : l.length ≤ 1048576) :
    Calls Try.prog 103 #[v, .int .i64 x] w (fun e w' => ∃ r : Int, e = .returned (.int .i64 r) ∧ (0 ≤ r ↔ x ∈ l) ∧ Below w.heap.size w w') := by
  obtain ⟨ad, cap, rfl, -, -⟩ := h.form
  have HI := Lib.hid h
  clear h
  go_enter Try.func103, Try.ntmps103
  go_wp2
  go_loopw [8] (fun i wr => ∃ j : Nat, j ≤ l.length ∧ i = .int .i64 j ∧ Below w.heap.size w wr ∧ Hid (∀ q, q < j → nth l q ≠ x)) (fun i _ => l.length - (intOf i).toNat)
  case atStart => exact ⟨0, by omega, rfl, Below.refl _ _, fun i hi => absurd hi (by omega)⟩
  case round =>
    obtain ⟨j, hj, rfl, hbel, HO⟩ := hrel
    have HB := Lib.hid hbel
    by_cases hlt : j < l.length
    · obtain ⟨b1, off1, cap1, hv, _, _, hb1, hc1⟩ := (HI.out.on hbel).pos (by omega)
      simp only [Value.slice.injEq] at hv
      obtain ⟨rfl, -, rfl⟩ := hv
      obtain ⟨y, hy⟩ : ∃ y, y = nth l j := ⟨_, rfl⟩
      have c1 := hc1 j hlt
      rw [← hy] at c1
      have HY := Lib.hid hy
      clear hc1 hy hbel
      by_cases he : x = y
      · have d0 : (x == y) = true := by rw [beq_iff_eq]; exact he
        have HN := Lib.hid (show ((0 : Int) ≤ (j : Int)) ↔ x ∈ l from ⟨fun _ => by
          rw [he, HY.out]; unfold nth; rw [List.getD_eq_getElem?_getD, List.getElem?_eq_getElem hlt]; exact List.getElem_mem hlt, fun _ => by omega⟩)
        clear he
        go_wp2
        go_ret
        exact ⟨_, rfl, HN.out, HB.out⟩
      · have d0 : (x == y) = false := by rw [beq_eq_false_iff_ne]; exact he
        have HN : Hid (∀ q, q < j + 1 → nth l q ≠ x) := fun q hq => by
          rcases Nat.lt_or_ge q j with h | h
          · exact HO.out q h
          · obtain rfl : q = j := by omega
            rw [← HY.out]; exact fun h => he h.symm
        clear he
        go_wp2
        go_roundw
        case rel => exact ⟨j + 1, by omega, by go_num, HB.out, HN.out⟩
        case measure => simp [intOf]; omega
    · obtain rfl : j = l.length := by omega
      have HN := Lib.hid (show ((0 : Int) ≤ -1) ↔ x ∈ l from ⟨fun h => absurd h (by decide), fun h => by
        obtain ⟨i, hi, he⟩ := List.mem_iff_getElem.1 h
        exact absurd (by unfold nth; rw [List.getD_eq_getElem?_getD, List.getElem?_eq_getElem hi]; exact he) (HO.out i hi)⟩)
      clear hbel
      go_wp2
      go_ret
      exact ⟨_, rfl, HN.out, HB.out⟩

theorem slicesContains (v : Value) (l : List Int) (x : Int) (w : World) (h : Ints w v l) (hl : l.length ≤ 1048576) :
    Calls Try.prog 93 #[v, .int .i64 x] w (fun e w' => e = .returned (.bool (decide (x ∈ l))) ∧ Below w.heap.size w w') := by
  obtain ⟨ad, cap, rfl, -, -⟩ := h.form
  have HI := Lib.hid h
  clear h
  obtain ⟨b, hb⟩ : ∃ b, b = decide (x ∈ l) := ⟨_, rfl⟩
  have HBB := Lib.hid hb
  rw [← hb]
  clear hb
  go_enter Try.func93, Try.ntmps93
  go_wp2_with fail
  refine (slicesIndex _ l x _ HI.out hl).mono ?_
  rintro e w1 ⟨r, rfl, hr, hb⟩
  have HB := Lib.hid hb
  have HE := Lib.hid (show b = decide ((0 : Int) ≤ r) by rw [HBB.out]; exact decide_eq_decide.2 hr.symm)
  clear hb hr
  go_wp2
  go_ret
  exact ⟨by rw [HE.out] <;> rfl, HB.out⟩

end Go.Proofs.Yteikiifjiapjaaa
