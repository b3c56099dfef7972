/- The specification's l8Has. -/
import Derived.Test.YtcpchdnhhjhpaaaGl
import Derived.Test.YtcpchdnhhjhpaaaGw
namespace Go.Proofs.Ytcpchdnhhjhpaaa
set_option linter.unusedVariables false
set_option linter.unusedSimpArgs false
open Go.RowKit

set_option maxHeartbeats 2000000 in
set_option maxRecDepth 100000 in
theorem l8Has_is (v : Value) (l : List Int) (x : Int) (w : World) (h : Ints w v l) (hl : l.length ≤ 1048576) (r : Bool) (hr : r = true ↔ ∃ t, t < l.length ∧ nth l t = x) :
    Calls Try.prog 112 #[v, .int .i64 x] w fun e w' => e = .returned (.bool r) ∧ w = w' := by
  obtain ⟨a, cap, rfl, -, hm⟩ := h.form
  have HI := Lib.hid h
  have HR := Lib.hid hr
  unfold maxLen at hm
  clear h hr
  go_enter Try.func112, Try.ntmps112
  go_wp2
  go_loopw [5] (fun i wr => ∃ j : Nat, j ≤ l.length ∧ i = .int .i64 j ∧ Hid (∀ t, t < j → nth l t ≠ x) ∧ wr = w) (fun i _ => l.length - (intOf i).toNat)
  case atStart => exact ⟨0, by omega, rfl, fun t ht => absurd ht (by omega), rfl⟩
  case round =>
    obtain ⟨j, hj, rfl, HJ, rfl⟩ := hrel
    by_cases hlt : j < l.length
    · obtain ⟨b, off, cap1, hv, _, _, hb, hcell⟩ := HI.out.pos (by omega)
      simp only [Value.slice.injEq] at hv
      obtain ⟨rfl, -, rfl⟩ := hv
      obtain ⟨y, hy⟩ : ∃ y, y = nth l j := ⟨_, rfl⟩
      have c1 := hcell j hlt
      rw [← hy] at c1
      have HY := Lib.hid hy
      clear hcell hy
      by_cases he : y = x
      · have d0 : (y == x) = true := by rw [beq_iff_eq]; exact he
        have HN := Lib.hid (show r = true from HR.out.2 ⟨j, hlt, by rw [← HY.out]; exact he⟩)
        clear he
        go_wp2
        go_ret
        exact ⟨by rw [HN.out]; rfl, rfl⟩
      · have d0 : (y == x) = false := by rw [beq_eq_false_iff_ne]; exact he
        have HT : Hid (∀ t, t < j + 1 → nth l t ≠ x) := fun t ht => by
          rcases Nat.lt_or_ge t j with h | h
          · exact HJ.out t h
          · obtain rfl : t = j := by omega
            rw [← HY.out]; exact he
        clear he
        go_wp2
        go_roundw
        case rel => exact ⟨j + 1, by omega, by go_num, HT.out, by first | rfl | trivial⟩
        case measure => simp [intOf]; omega
    · obtain rfl : j = l.length := by omega
      have HN := Lib.hid (show r = false by
        cases r with
        | false => rfl
        | true => obtain ⟨t, h1, h2⟩ := HR.out.1 rfl; exact absurd h2 (HJ.out t h1))
      go_wp2
      go_ret
      exact ⟨by rw [HN.out]; rfl, rfl⟩

theorem mem_nth {l : List Int} {x : Int} : x ∈ l ↔ ∃ t, t < l.length ∧ nth l t = x := by
  constructor
  · intro h
    obtain ⟨i, hi, he⟩ := List.mem_iff_getElem.1 h
    exact ⟨i, hi, by unfold nth; rw [List.getD_eq_getElem?_getD, List.getElem?_eq_getElem hi]; exact he⟩
  · rintro ⟨t, ht, rfl⟩
    exact nth_mem l t ht

theorem l8Has_dec (v : Value) (l : List Int) (x : Int) (w : World) (h : Ints w v l) (hl : l.length ≤ 1048576) :
    Calls Try.prog 112 #[v, .int .i64 x] w fun e w' => e = .returned (.bool (decide (x ∈ l))) ∧ Below w.heap.size w w' :=
  (l8Has_is v l x w h hl (decide (x ∈ l)) (by rw [decide_eq_true_iff]; exact mem_nth)).mono fun e w' ⟨he, hw⟩ => ⟨he, by rw [← hw]; exact Below.refl _ _⟩

end Go.Proofs.Ytcpchdnhhjhpaaa
