/- What the specification's search for odd cycles lets stand behind a list. -/
import Derived.Test.YtbmpljclplddeabC2
import Derived.Test.YtbmpljclplddeabJ3
namespace Go.Proofs.Ytbmpljclplddeab
set_option linter.unusedVariables false
set_option linter.unusedSimpArgs false
open Go.RowKit

def fitO (lg : List Int) (l : List Int) (v : Nat) : Bool := decide (∀ t, t < l.length → kl l t ≠ v) && (decide (l.length = 0) || edB lg (kl l (l.length - 1)) v)

theorem search_odd {n : Int} {lg : List Int} (N : Nat) : srchS lg.length (fitO lg) (oddT n lg) N [] = allS lg.length (oddT n lg) N [] :=
  srch_all lg.length (fitO lg) (oddT n lg) (oddT n lg) (fun _ _ => True) (fun _ _ => rfl) (fun _ _ _ _ _ _ => trivial)
    (fun l k v _ hv hf s hs => by
      unfold oddT
      rw [decide_eq_false_iff_not]
      intro hp
      have e0 : ∀ i, i < l.length → kl (l ++ [(v : Int)] ++ s) i = kl l i := fun i hi => by
        unfold kl nth
        rw [List.append_assoc, List.getD_eq_getElem?_getD, List.getD_eq_getElem?_getD, List.getElem?_append_left hi]
      have e1 : kl (l ++ [(v : Int)] ++ s) l.length = v := by
        unfold kl nth
        rw [List.append_assoc, List.getD_eq_getElem?_getD, List.getElem?_append_right (Nat.le_refl _)]
        simp
      have hlen : (l ++ [(v : Int)] ++ s).length = l.length + 1 + s.length := by simp; omega
      have hfit : fitO lg l v = true := by
        have hA : ∀ t, t < l.length → kl l t ≠ v := fun t ht he => by
          have := hp.1.inj (i := t) (j := l.length) (by omega) (by omega) (by rw [e0 t ht, e1]; exact he)
          omega
        unfold fitO
        rw [decide_eq_true hA]
        by_cases h0 : l.length = 0
        · simp [h0]
        · have h1 := hp.2.2.2 (l.length - 1) (by omega)
          rw [Nat.mod_eq_of_lt (by omega), show l.length - 1 + 1 = l.length by omega, e0 _ (by omega), e1] at h1
          rw [h1]
          simp
      rw [hfit] at hf
      cases hf)
    N [] trivial

theorem cyc_long {n : Int} {lg : List Int} : ∀ (f N : Nat), lg.length < N → cycR n lg f N = none
  | 0, _, _ => rfl
  | f + 1, N, h => by
    have : allS lg.length (oddT n lg) N [] = none := allS_none _ _ N [] fun s hs => by
      rw [List.nil_append]
      unfold oddT
      rw [decide_eq_false_iff_not]
      intro hp
      have := dist_len hp.1
      omega
    unfold cycR
    rw [this]
    exact cyc_long f (N + 2) (by omega)

set_option maxHeartbeats 2000000 in
set_option maxRecDepth 100000 in
theorem l8Has_is (v : Value) (l : List Int) (x : Int) (w : World) (h : Ints w v l) (hl : l.length ≤ 1048576) (r : Bool) (hr : r = true ↔ ∃ t, t < l.length ∧ nth l t = x) :
    Calls Try.prog 123 #[v, .int .i64 x] w fun e w' => e = .returned (.bool r) ∧ w = w' := by
  obtain ⟨a, cap, rfl, -, hm⟩ := h.form
  have HI := Lib.hid h
  have HR := Lib.hid hr
  unfold maxLen at hm
  clear h hr
  go_enter Try.func123, Try.ntmps123
  go_wp2
  go_loopw [5] (fun i wr => ∃ j : Nat, j ≤ l.length ∧ i = .int .i64 j ∧ Hid (∀ t, t < j → nth l t ≠ x) ∧ wr = w) (fun i _ => l.length - (intOf i).toNat)
  case atStart => exact ⟨0, by omega, rfl, fun t ht => absurd ht (by omega), rfl⟩
  case round =>
    obtain ⟨j, hj, rfl, HJ, rfl⟩ := hrel
    by_cases hlt : j < l.length
    · obtain ⟨b, off, cap1, hv, _, _, hb, hcell⟩ := HI.out.pos (by omega)
      simp only [Value.slice.injEq] at hv
      obtain ⟨rfl, -, rfl⟩ := hv
      obtain ⟨y, hy⟩ : ∃ y, y = nth l j := ⟨_, rfl⟩
      have c1 := hcell j hlt
      rw [← hy] at c1
      have HY := Lib.hid hy
      clear hcell hy
      by_cases he : y = x
      · have d0 : (y == x) = true := by rw [beq_iff_eq]; exact he
        have HN := Lib.hid (show r = true from HR.out.2 ⟨j, hlt, by rw [← HY.out]; exact he⟩)
        clear he
        go_wp2
        go_ret
        exact ⟨by rw [HN.out]; rfl, rfl⟩
      · have d0 : (y == x) = false := by rw [beq_eq_false_iff_ne]; exact he
        have HT : Hid (∀ t, t < j + 1 → nth l t ≠ x) := fun t ht => by
          rcases Nat.lt_or_ge t j with h | h
          · exact HJ.out t h
          · obtain rfl : t = j := by omega
            rw [← HY.out]; exact he
        clear he
        go_wp2
        go_roundw
        case rel => exact ⟨j + 1, by omega, by go_num, HT.out, by first | rfl | trivial⟩
        case measure => simp [intOf]; omega
    · obtain rfl : j = l.length := by omega
      have HN := Lib.hid (show r = false by
        cases r with
        | false => rfl
        | true => obtain ⟨t, h1, h2⟩ := HR.out.1 rfl; exact absurd h2 (HJ.out t h1))
      go_wp2
      go_ret
      exact ⟨by rw [HN.out]; rfl, rfl⟩

end Go.Proofs.Ytbmpljclplddeab
