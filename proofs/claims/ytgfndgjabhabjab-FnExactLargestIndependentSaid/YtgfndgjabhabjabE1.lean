/- Of several sets the one with fewest members, and the one with most. -/
import Derived.Test.YtgfndgjabhabjabF1
import Derived.Test.YtgfndgjabhabjabH3
import Derived.Test.YtgfndgjabhabjabQ
namespace Go.Proofs.Ytgfndgjabhabjab
set_option linter.unusedVariables false
set_option linter.unusedSimpArgs false
open Go.RowKit

def fewF (b x : Int) : Int := if b < 0 ∨ popU x < popU b then x else b

def fewU (l : List Int) : Int := l.foldl fewF (-1)

def mosF (b x : Int) : Int := if popU b < popU x then x else b

def mosU (l : List Int) : Int := l.foldl mosF 0

theorem few_snoc (l : List Int) (x : Int) : fewU (l ++ [x]) = fewF (fewU l) x := by simp [fewU, List.foldl_append]

theorem mos_snoc (l : List Int) (x : Int) : mosU (l ++ [x]) = mosF (mosU l) x := by simp [mosU, List.foldl_append]

theorem take_snoc' (l : List Int) (k : Nat) (h : k < l.length) : l.take (k + 1) = l.take k ++ [nth l k] := by
  rw [List.take_succ_eq_append_getElem h]
  simp [nth, List.getD, h]

theorem few_step (l : List Int) (j : Nat) (h : j < l.length) : fewU (l.take (j + 1)) = fewF (fewU (l.take j)) (nth l j) := by
  rw [take_snoc' l j h, few_snoc]

theorem mos_step (l : List Int) (j : Nat) (h : j < l.length) : mosU (l.take (j + 1)) = mosF (mosU (l.take j)) (nth l j) := by
  rw [take_snoc' l j h, mos_snoc]

set_option maxHeartbeats 1000000 in
set_option maxRecDepth 100000 in
theorem implMost (v : Value) (l : List Int) (w : World) (h : Ints w v l) (hl : l.length ≤ 128) :
    Calls Try.prog 67 #[v] w (SaysN (mosU l) w) := by
  obtain ⟨a, cap, rfl, -, hm⟩ := h.form
  have HI := Lib.hid h
  clear h
  unfold maxLen at hm
  go_enter Try.func67, Try.ntmps67
  go_wp2
  go_loopw [3, 5, 8] (fun x y i wr => ∃ (j : Nat) (s : Int), j ≤ l.length ∧ i = .int .i64 j ∧ x = .int .i64 s ∧ Hid (s = mosU (l.take j)) ∧ wr = w) (fun _ _ i _ => l.length - (intOf i).toNat)
  case atStart => exact ⟨0, 0, by omega, rfl, rfl, rfl, rfl⟩
  case round =>
    obtain ⟨j, s, hj, rfl, rfl, HS, rfl⟩ := hrel
    by_cases hlt : j < l.length
    · obtain ⟨b, off, cap1, hv, _, _, hb, hcell⟩ := HI.out.pos (by omega)
      simp only [Value.slice.injEq] at hv
      obtain ⟨rfl, -, rfl⟩ := hv
      obtain ⟨x, hx⟩ : ∃ x, x = nth l j := ⟨_, rfl⟩
      have c1 := hcell j hlt
      rw [← hx] at c1
      have HT := Lib.hid (show mosU (l.take (j + 1)) = mosF s x by rw [HS.out, hx]; exact mos_step l j hlt)
      clear hcell hx
      go_wp2_with fail
      refine (implCountSet x _).mono ?_
      rintro e wc ⟨rfl, rfl⟩
      go_wp2_with fail
      refine (implCountSet s _).mono ?_
      rintro e wd ⟨rfl, rfl⟩
      by_cases hp : popU s < popU x
      · have d2 : decide (popU s < popU x) = true := decide_eq_true hp
        have HT2 := Lib.hid (show x = mosU (l.take (j + 1)) by rw [HT.out]; unfold mosF; rw [if_pos hp])
        clear hp
        go_wp2
        go_roundw
        case rel => exact ⟨j + 1, x, by omega, by go_num, rfl, HT2.out, trivial⟩
        case measure => simp [intOf]; omega
      · have d2 : decide (popU s < popU x) = false := decide_eq_false hp
        have HT2 := Lib.hid (show s = mosU (l.take (j + 1)) by rw [HT.out]; unfold mosF; rw [if_neg hp])
        clear hp
        go_wp2
        go_roundw
        case rel => exact ⟨j + 1, s, by omega, by go_num, rfl, HT2.out, trivial⟩
        case measure => simp [intOf]; omega
    · obtain rfl : j = l.length := by omega
      have HN := Lib.hid (show s = mosU l by rw [HS.out, List.take_length])
      go_wp2
      go_ret
      exact ⟨congrArg (fun z => Ending.returned (Value.int .i64 z)) HN.out, Below.refl _ _⟩

end Go.Proofs.Ytgfndgjabhabjab
