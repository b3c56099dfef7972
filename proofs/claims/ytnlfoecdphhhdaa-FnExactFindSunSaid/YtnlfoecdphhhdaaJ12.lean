/- Suns: what the searches find. -/
import Derived.Test.YtnlfoecdphhhdaaJ3
import Derived.Test.YtnlfoecdphhhdaaJ4
import Derived.Test.YtnlfoecdphhhdaaA3
namespace Go.Proofs.Ytnlfoecdphhhdaa
set_option linter.unusedVariables false
set_option linter.unusedSimpArgs false
open Go.RowKit

/-- Is it a sun? -/
def sunT (n : Int) (lg l : List Int) : Bool := decide (l.length = 6 ∧ HasPat n lg l sunP)

/-- What the specification's search lets stand behind a list. -/
def fitS (lg : List Int) (l : List Int) (v : Nat) : Bool := decide (∀ t, t < l.length → kl l t ≠ v) && (decide (l.length = 0) || decide (3 ≤ l.length) || edB lg (kl l 0) v)

theorem search_sun {n : Int} {lg : List Int} (hg : IsG n lg) : srchS lg.length (fitS lg) (sunT n lg) 6 [] = allS lg.length (patT n lg sunP) 6 [] :=
  srch_all lg.length (fitS lg) (patT n lg sunP) (sunT n lg) (fun l k => l.length + k = 6)
    (fun l h => by
      have h6 : l.length = 6 := h
      unfold sunT patT
      simp [h6])
    (fun l k v h hv hf => by simp; omega)
    (fun l k v h hv hf s hs => by
      unfold patT
      rw [decide_eq_false_iff_not]
      intro hp
      have h3 := ((pat_snoc hg hv).1 (pat_prefix s _ hp)).2
      have h4 : ∀ i, i < l.length → kl l i ≠ v ∧ edB lg (kl l i) v = sunP i l.length := of_decide_eq_true h3
      have h5 : fitS lg l v = true := by
        unfold fitS
        rw [decide_eq_true (fun t ht => (h4 t ht).1)]
        by_cases h0 : l.length = 0
        · simp [h0]
        · by_cases h6 : 3 ≤ l.length
          · simp [h6]
          · have h7 := (h4 0 (by omega)).2
            have h8 : sunP 0 l.length = true := by unfold sunP; simp; omega
            rw [h7, h8]
            simp
      rw [h5] at hf
      cases hf)
    6 [] (by simp)

theorem sun_found {n : Int} {lg : List Int} (hg : IsG n lg) : fwpR n lg sunP 6 = srchS lg.length (fitS lg) (sunT n lg) 6 [] := by
  rw [search_sun hg]
  unfold fwpR
  by_cases h : (6 : Int) ≤ n
  · rw [if_pos ⟨hg, by omega, h⟩]; rfl
  · rw [if_neg (fun hh => h hh.2.2)]
    exact (all_none_long (by have := hg.2.2.1; omega)).symm

set_option maxHeartbeats 2000000 in
set_option maxRecDepth 100000 in
theorem implSun (n : Int) (v : Value) (lg : List Int) (w : World) (h : Ints w v lg) :
    Calls Try.prog 41 #[.agg #[.int .i64 n, v]] w (GetsLB w.heap.size w (fwpR n lg sunP 6)) := by
  obtain ⟨a, cap, rfl, -, -⟩ := h.form
  have HI := Lib.hid h
  clear h
  go_enter Try.func41, Try.ntmps41
  go_wp2_with fail
  refine (firstWithPattern_any 61 #[] sunP enters_sun n _ lg _ (HI.out.alloc _) 6 (fun N h6 hN => rule_sun _ _ (by omega))).mono ?_
  rintro e w1 ⟨v1, rfl, ho, hb⟩
  have HB := Lib.hid (((Below.refl _ w).alloc (Nat.le_refl _) _).trans (hb.mono (B' := w.heap.size) (by simp)))
  have HO := Lib.hid (ho.mono (B' := w.heap.size) (by simp))
  clear hb ho
  go_wp2
  go_ret2
  exact ⟨_, rfl, HO.out, HB.out⟩

set_option maxHeartbeats 2000000 in
set_option maxRecDepth 100000 in
theorem l8Has_is (v : Value) (l : List Int) (x : Int) (w : World) (h : Ints w v l) (hl : l.length ≤ 1048576) (r : Bool) (hr : r = true ↔ ∃ t, t < l.length ∧ nth l t = x) :
    Calls Try.prog 72 #[v, .int .i64 x] w fun e w' => e = .returned (.bool r) ∧ w = w' := by
  obtain ⟨a, cap, rfl, -, hm⟩ := h.form
  have HI := Lib.hid h
  have HR := Lib.hid hr
  unfold maxLen at hm
  clear h hr
  go_enter Try.func72, Try.ntmps72
  go_wp2
  go_loopw [5] (fun i wr => ∃ j : Nat, j ≤ l.length ∧ i = .int .i64 j ∧ Hid (∀ t, t < j → nth l t ≠ x) ∧ wr = w) (fun i _ => l.length - (intOf i).toNat)
  case atStart => exact ⟨0, by omega, rfl, fun t ht => absurd ht (by omega), rfl⟩
  case round =>
    obtain ⟨j, hj, rfl, HJ, rfl⟩ := hrel
    by_cases hlt : j < l.length
    · obtain ⟨b, off, cap1, hv, _, _, hb, hcell⟩ := HI.out.pos (by omega)
      simp only [Value.slice.injEq] at hv
      obtain ⟨rfl, -, rfl⟩ := hv
      obtain ⟨y, hy⟩ : ∃ y, y = nth l j := ⟨_, rfl⟩
      have c1 := hcell j hlt
      rw [← hy] at c1
      have HY := Lib.hid hy
      clear hcell hy
      by_cases he : y = x
      · have d0 : (y == x) = true := by rw [beq_iff_eq]; exact he
        have HN := Lib.hid (show r = true from HR.out.2 ⟨j, hlt, by rw [← HY.out]; exact he⟩)
        clear he
        go_wp2
        go_ret
        exact ⟨by rw [HN.out]; rfl, rfl⟩
      · have d0 : (y == x) = false := by rw [beq_eq_false_iff_ne]; exact he
        have HT : Hid (∀ t, t < j + 1 → nth l t ≠ x) := fun t ht => by
          rcases Nat.lt_or_ge t j with h | h
          · exact HJ.out t h
          · obtain rfl : t = j := by omega
            rw [← HY.out]; exact he
        clear he
        go_wp2
        go_roundw
        case rel => exact ⟨j + 1, by omega, by go_num, HT.out, by first | rfl | trivial⟩
        case measure => simp [intOf]; omega
    · obtain rfl : j = l.length := by omega
      have HN := Lib.hid (show r = false by
        cases r with
        | false => rfl
        | true => obtain ⟨t, h1, h2⟩ := HR.out.1 rfl; exact absurd h2 (HJ.out t h1))
      go_wp2
      go_ret
      exact ⟨by rw [HN.out]; rfl, rfl⟩

end Go.Proofs.Ytnlfoecdphhhdaa
