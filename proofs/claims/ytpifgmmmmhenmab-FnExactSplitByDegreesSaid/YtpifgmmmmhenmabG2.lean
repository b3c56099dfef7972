/- Walks over IsGraph. -/
import Derived.Test.YtpifgmmmmhenmabGg
import Derived.Test.YtpifgmmmmhenmabGp
namespace Go.Proofs.Ytpifgmmmmhenmab
set_option linter.unusedVariables false
set_option linter.unusedSimpArgs false
open Go.RowKit

/-- A call that says whether P, and turns nothing that was there. -/
def SaysB (P : Prop) (w : World) (e : Ending) (w' : World) : Prop := ∃ r : Bool, e = .returned (.bool r) ∧ (r = true ↔ P) ∧ Below w.heap.size w w'

theorem SaysB.dec {P : Prop} [Decidable P] {w : World} {e : Ending} {w' : World} (h : SaysB P w e w') : e = .returned (.bool (decide P)) ∧ Below w.heap.size w w' := by
  obtain ⟨r, rfl, hr, hb⟩ := h
  refine ⟨congrArg (fun b => Ending.returned (.bool b)) ?_, hb⟩
  cases r <;> simp_all

theorem SaysB.no {P : Prop} {w w' : World} (h : ¬ P) (hb : Below w.heap.size w w') : SaysB P w (.returned (.bool false)) w' := ⟨false, rfl, by simp [h], hb⟩

theorem SaysB.yes {P : Prop} {w w' : World} (h : P) (hb : Below w.heap.size w w') : SaysB P w (.returned (.bool true)) w' := ⟨true, rfl, by simp [h], hb⟩

set_option maxHeartbeats 2000000 in
set_option maxRecDepth 100000 in
theorem implIsG_in (n : Int) (v : Value) (l : List Int) (w : World) (h : Ints w v l) (hn : 1 ≤ n) (hn7 : n ≤ 7) (hl : (l.length : Int) = n) :
    Calls Try.prog 42 #[.agg #[.int .i64 n, v]] w (SaysB (IsG n l) w) := by
  obtain ⟨b, off, cap, rfl, hc, hm, hb, hcell⟩ := h.pos (by omega)
  have HC := Lib.hid hcell
  have HIN := Lib.hid h.1
  clear h hcell
  unfold maxLen at hm
  have hd1 : decide (n < 1) = false := by simp; omega
  have hd2 : decide (7 < n) = false := by simp; omega
  have HBX : Hid (∀ wr, Below (w.heap.size + 1) (w.alloc (.cells #[.int .i64 n, .slice (some ⟨b, off, none⟩) l.length cap] 27)) wr → wr.cell? ⟨w.heap.size, 0, none⟩ = some (.int .i64 n) ∧ wr.cell? ⟨w.heap.size, 1, none⟩ = some (.slice (some ⟨b, off, none⟩) l.length cap) ∧
      (∀ j, j < l.length → wr.cell? ⟨b, off + j, none⟩ = some (.int .i64 (nth l j))) ∧ Below w.heap.size w wr) := fun wr hbel => by
    refine ⟨by rw [hbel.cell (p := ⟨w.heap.size, 0, none⟩) (by simp)]; simp [go_sem], by rw [hbel.cell (p := ⟨w.heap.size, 1, none⟩) (by simp)]; simp [go_sem], fun j hj => ?_, ((Below.refl _ w).alloc (Nat.le_refl _) _).trans (hbel.mono (by omega))⟩
    rw [hbel.cell (p := ⟨b, off + j, none⟩) (by show b < _; omega), ((Below.refl w.heap.size w).alloc (Nat.le_refl _) _).cell (p := ⟨b, off + j, none⟩) hb]
    exact HC.out j hj
  go_enter Try.func42, Try.ntmps42
  go_wp2
  go_loopw [26] (fun i wr => ∃ j : Nat, j ≤ l.length ∧ i = .int .i64 j ∧ Below (w.heap.size + 1) (w.alloc (.cells #[.int .i64 n, .slice (some ⟨b, off, none⟩) l.length cap] 27)) wr ∧ Hid (∀ v, v < j → OkRow n l v ∧ ∀ w, w < l.length → OkPair l v w)) (fun i _ => l.length - (intOf i).toNat)
  case atStart => exact ⟨0, by omega, rfl, Below.refl _ _, fun v hv => absurd hv (by omega)⟩
  case round =>
    obtain ⟨j, hj, rfl, hbel, HO⟩ := hrel
    obtain ⟨d0, d1, hcell, hB⟩ := HBX.out wr hbel
    by_cases hlt : j < l.length
    · obtain ⟨x, hx⟩ : ∃ x, x = nth l j := ⟨_, rfl⟩
      have c1 := hcell j hlt
      rw [← hx] at c1
      have HX := Lib.hid hx
      have HN : Hid (¬ OkRow n l j → ¬ IsG n l) := fun hno hg => hno (hg.2.2.2 j hlt).1
      clear hcell hx
      by_cases h0 : x < 0
      · go_wp2
        go_ret
        exact SaysB.no (HN.out fun hok => by have := hok.1; rw [← HX.out] at this; omega) hB
      · have h0' : decide (x < 0) = false := by simp; omega
        have h0'' : 0 ≤ x := by omega
        obtain ⟨q, hq⟩ : ∃ q, q = x / 2 ^ n.toNat := ⟨_, rfl⟩
        have e0 : x / 2 ^ n.toNat = q := hq.symm
        obtain ⟨t, ht⟩ : ∃ t, t = bitAt x j := ⟨_, rfl⟩
        have e1 : bits .and .i64 (x / 2 ^ j) 1 = t := by rw [ht]; exact and_one_bit x j
        have HQ := Lib.hid hq
        have HT := Lib.hid ht
        clear hq ht
        by_cases hq : q = 0
        · by_cases ht : t = 0
          · subst hq; subst ht
            have HOK : Hid (OkRow n l j) := ⟨by rw [← HX.out]; exact h0'', by rw [← HX.out]; exact HQ.out.symm, by rw [← HX.out]; exact HT.out.symm⟩
            go_wp2
            clear e0 e1
            go_loopw [50] (fun i wr => ∃ k : Nat, k ≤ l.length ∧ i = .int .i64 k ∧ Below (w.heap.size + 1) (w.alloc (.cells #[.int .i64 n, .slice (some ⟨b, off, none⟩) l.length cap] 27)) wr ∧ Hid (∀ v, v < k → OkPair l j v)) (fun i _ => l.length - (intOf i).toNat)
            case atStart => exact ⟨0, by omega, rfl, hbel, fun v hv => absurd hv (by omega)⟩
            case round =>
              clear d0 d1 hB hbel
              obtain ⟨k, hk, rfl, hbel, HK⟩ := hrel
              obtain ⟨d0, d1, hcell, hB⟩ := HBX.out _ hbel
              by_cases hkt : k < l.length
              · obtain ⟨y, hy⟩ : ∃ y, y = nth l k := ⟨_, rfl⟩
                have c2 := hcell k hkt
                rw [← hy] at c2
                obtain ⟨t1, ht1⟩ : ∃ t, t = bitAt x k := ⟨_, rfl⟩
                have e1 : bits .and .i64 (x / 2 ^ k) 1 = t1 := by rw [ht1]; exact and_one_bit x k
                obtain ⟨t2, ht2⟩ : ∃ t, t = bitAt y j := ⟨_, rfl⟩
                have e2 : bits .and .i64 (y / 2 ^ j) 1 = t2 := by rw [ht2]; exact and_one_bit y j
                have HP : Hid (OkPair l j k ↔ t1 = t2) := by unfold OkPair; rw [← HX.out, ← hy, ← ht1, ← ht2]; exact Iff.rfl
                clear hcell hy ht1 ht2
                by_cases ht : t1 = t2
                · have HP' : Hid (OkPair l j k) := HP.out.2 ht
                  subst ht
                  go_wp2
                  go_quiet (fail)
                  go_wp2
                  go_roundw
                  case rel => exact ⟨k + 1, by omega, by go_num, below_drewN hbel _, fun v hv => by
                      rcases Nat.lt_or_ge v k with h | h
                      · exact HK.out v h
                      · obtain rfl : v = k := by omega
                        exact HP'.out⟩
                  case measure => simp [intOf]; omega
                · have hne : (t1 == t2) = false := by simp [ht]
                  have hne' : (t1 != t2) = true := by simp [ht]
                  go_wp2
                  go_quiet (fail)
                  go_wp2
                  go_ret
                  exact SaysB.no (fun hg => ht (HP.out.1 ((hg.2.2.2 j hlt).2 k hkt))) (below_drewN hB _)
              · obtain rfl : k = l.length := by omega
                clear hcell
                go_wp2
                go_roundw
                case rel => exact ⟨j + 1, by omega, by go_num, hbel, fun v hv => by
                    rcases Nat.lt_or_ge v j with h | h
                    · exact HO.out v h
                    · obtain rfl : v = j := by omega
                      exact ⟨HOK.out, HK.out⟩⟩
                case measure => simp [intOf]; omega
          · subst hq
            have ht' : (t == 0) = false := by simp [ht]
            have ht'' : (t != 0) = true := by simp [ht]
            go_wp2
            go_ret
            exact SaysB.no (HN.out fun hok => by have := hok.2.2; rw [← HX.out, ← HT.out] at this; exact ht this) hB
        · have hq' : (q == 0) = false := by simp [hq]
          have hq'' : (q != 0) = true := by simp [hq]
          go_wp2
          go_ret
          exact SaysB.no (HN.out fun hok => by have := hok.2.1; rw [← HX.out, ← HQ.out] at this; exact hq this) hB
    · obtain rfl : j = l.length := by omega
      clear hcell
      go_wp2
      go_ret
      exact SaysB.yes ⟨hn, hn7, hl, HO.out⟩ hB

set_option maxHeartbeats 1000000 in
theorem implIsG_any (n : Int) (v : Value) (l : List Int) (w : World) (h : Ints w v l) :
    Calls Try.prog 42 #[.agg #[.int .i64 n, v]] w (SaysB (IsG n l) w) := by
  by_cases hn : 1 ≤ n
  · by_cases hn7 : n ≤ 7
    · by_cases hl : (l.length : Int) = n
      · exact implIsG_in n v l w h hn hn7 hl
      · obtain ⟨a, cap, rfl, hc, hm⟩ := h.form
        clear h
        have hd1 : decide (n < 1) = false := by simp; omega
        have hd2 : decide (7 < n) = false := by simp; omega
        have hd3 : ((l.length : Int) != n) = true := by simp [hl]
        have HL := Lib.hid hl
        clear hl
        go_enter Try.func42, Try.ntmps42
        go_wp2
        go_ret
        exact SaysB.no (fun hg => HL.out hg.2.2.1) ((Below.refl _ w).alloc (Nat.le_refl _) _)
    · obtain ⟨a, cap, rfl, hc, hm⟩ := h.form
      clear h
      have hd1 : decide (n < 1) = false := by simp; omega
      have hd2 : decide (7 < n) = true := by simp; omega
      go_enter Try.func42, Try.ntmps42
      go_wp2
      go_ret
      exact SaysB.no (fun hg => by have := hg.2.1; omega) ((Below.refl _ w).alloc (Nat.le_refl _) _)
  · obtain ⟨a, cap, rfl, hc, hm⟩ := h.form
    clear h
    have hd1 : decide (n < 1) = true := by simp; omega
    go_enter Try.func42, Try.ntmps42
    go_wp2
    go_ret
    exact SaysB.no (fun hg => by have := hg.1; omega) ((Below.refl _ w).alloc (Nat.le_refl _) _)

end Go.Proofs.Ytpifgmmmmhenmab
