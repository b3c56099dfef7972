/- Walks over the specification's IsGraph. -/
import Derived.Test.YtpifgmmmmhenmabG2
namespace Go.Proofs.Ytpifgmmmmhenmab
set_option linter.unusedVariables false
set_option linter.unusedSimpArgs false
open Go.RowKit

theorem l1In_yes' (x lo hi : Int) (w : World) (h0 : lo ≤ x) (h1 : x ≤ hi) : Calls Try.prog 68 #[.int .i64 x, .int .i64 lo, .int .i64 hi] w fun e w' => e = .returned (.bool true) ∧ w = w' := by
  have d0 : decide (lo ≤ x) = true := by simp [h0]
  have d1 : decide (x ≤ hi) = true := by simp [h1]
  go_enter Try.func68, Try.ntmps68
  go_wp2
  go_ret
  exact ⟨rfl, rfl⟩

theorem l1In_no' (x lo hi : Int) (w : World) (h : ¬ (lo ≤ x ∧ x ≤ hi)) : Calls Try.prog 68 #[.int .i64 x, .int .i64 lo, .int .i64 hi] w fun e w' => e = .returned (.bool false) ∧ w = w' := by
  by_cases h0 : lo ≤ x
  · have d0 : decide (lo ≤ x) = true := by simp [h0]
    have d1 : decide (x ≤ hi) = false := by simp; omega
    clear h
    go_enter Try.func68, Try.ntmps68
    go_wp2
    go_ret
    exact ⟨rfl, rfl⟩
  · have d0 : decide (lo ≤ x) = false := by simp; omega
    clear h
    go_enter Try.func68, Try.ntmps68
    go_wp2
    go_ret
    exact ⟨rfl, rfl⟩

theorem shl_one (n : Int) (h0 : 0 ≤ n) (h1 : n ≤ 7) : IntKind.i64.wrap (1 * 2 ^ n.toNat) = 2 ^ n.toNat ∧ wrap64 (1 * 2 ^ n.toNat) = 2 ^ n.toNat ∧ wrap64 (2 ^ n.toNat) = 2 ^ n.toNat ∧ (2 : Int) ^ n.toNat ≤ 128 ∧ 2 ≤ (2 : Int) ^ n.toNat * 2 := by
  obtain ⟨k, rfl⟩ := Int.eq_ofNat_of_zero_le h0
  have : k < 8 := by omega
  match k, this with
  | 0, _ => decide +kernel
  | 1, _ => decide +kernel
  | 2, _ => decide +kernel
  | 3, _ => decide +kernel
  | 4, _ => decide +kernel
  | 5, _ => decide +kernel
  | 6, _ => decide +kernel
  | 7, _ => decide +kernel

set_option maxHeartbeats 2000000 in
set_option maxRecDepth 100000 in
theorem specIsG_in (n : Int) (v : Value) (l : List Int) (w : World) (h : Ints w v l) (hn : 1 ≤ n) (hn7 : n ≤ 7) (hl : (l.length : Int) = n) :
    Calls Try.prog 38 #[.agg #[.int .i64 n, v]] w (SaysB (IsG n l) w) := by
  obtain ⟨b, off, cap, rfl, hc, hm, hb, hcell⟩ := h.pos (by omega)
  have HC := Lib.hid hcell
  have HIN := Lib.hid h.1
  clear h hcell
  unfold maxLen at hm
  have hd3 : ((l.length : Int) != n) = false := by simp [hl]
  have HBX : Hid (∀ wr, Below (w.heap.size + 1) (w.alloc (.cells #[.int .i64 n, .slice (some ⟨b, off, none⟩) l.length cap] 27)) wr → wr.cell? ⟨w.heap.size, 0, none⟩ = some (.int .i64 n) ∧ wr.cell? ⟨w.heap.size, 1, none⟩ = some (.slice (some ⟨b, off, none⟩) l.length cap) ∧
      (∀ j, j < l.length → wr.cell? ⟨b, off + j, none⟩ = some (.int .i64 (nth l j))) ∧ Below w.heap.size w wr) := fun wr hbel => by
    refine ⟨by rw [hbel.cell (p := ⟨w.heap.size, 0, none⟩) (by simp)]; simp [go_sem], by rw [hbel.cell (p := ⟨w.heap.size, 1, none⟩) (by simp)]; simp [go_sem], fun j hj => ?_, ((Below.refl _ w).alloc (Nat.le_refl _) _).trans (hbel.mono (by omega))⟩
    rw [hbel.cell (p := ⟨b, off + j, none⟩) (by show b < _; omega), ((Below.refl w.heap.size w).alloc (Nat.le_refl _) _).cell (p := ⟨b, off + j, none⟩) hb]
    exact HC.out j hj
  go_enter Try.func38, Try.ntmps38
  go_wp2_with fail
  refine (l1In_yes' _ _ _ _ hn hn7).mono ?_
  rintro e w1 ⟨rfl, rfl⟩
  go_wp2
  go_loopw [3] (fun i wr => ∃ j : Nat, j ≤ l.length ∧ i = .int .i64 j ∧ Below (w.heap.size + 1) (w.alloc (.cells #[.int .i64 n, .slice (some ⟨b, off, none⟩) l.length cap] 27)) wr ∧ Hid (∀ v, v < j → OkRow n l v ∧ ∀ w, w < l.length → bitAt (nth l v) w = 1 → bitAt (nth l w) v = 1)) (fun i _ => l.length - (intOf i).toNat)
  case atStart => exact ⟨0, by omega, rfl, Below.refl _ _, fun v hv => absurd hv (by omega)⟩
  case round =>
    obtain ⟨j, hj, rfl, hbel, HO⟩ := hrel
    obtain ⟨d0, d1, hcell, hB⟩ := HBX.out wr hbel
    by_cases hlt : j < l.length
    · obtain ⟨x, hx⟩ : ∃ x, x = nth l j := ⟨_, rfl⟩
      have c1 := hcell j hlt
      rw [← hx] at c1
      have HX := Lib.hid hx
      have HN : Hid (¬ OkRow n l j → ¬ IsG n l) := fun hno hg => hno (hg.2.2.2 j hlt).1
      have hjn : (j : Int) < n := by omega
      clear hcell hx
      by_cases h0 : x < 0
      · have h0' : decide (x < 0) = true := by simp [h0]
        go_wp2
        go_quiet (fail)
        go_wp2
        go_ret
        exact SaysB.no (HN.out fun hok => by have := hok.1; rw [← HX.out] at this; omega) (below_drewN hB _)
      · have h0' : decide (x < 0) = false := by simp; omega
        obtain ⟨s1, s2, s3, s4, s5⟩ := shl_one n (by omega) hn7
        obtain ⟨N, hNN⟩ : ∃ N, N = (2 : Int) ^ n.toNat := ⟨_, rfl⟩
        have HP : Hid (∀ y : Int, 0 ≤ y → y / 2 ^ n.toNat = 0 → y < N) := fun y hy h => by
          rw [← hNN] at s4 s5 h
          have h2 := Int.emod_lt_of_pos y (show 0 < N by omega)
          have h3 := Int.emod_add_mul_ediv y N
          rw [h] at h3
          omega
        have hq0 : x / 2 ^ n.toNat = 0 ↔ x < N := by
          rw [← hNN] at s4 s5 ⊢
          constructor
          · intro h
            have h2 := Int.emod_lt_of_pos x (show 0 < N by omega)
            have h3 := Int.emod_add_mul_ediv x N
            rw [h] at h3
            omega
          · intro h
            exact Int.ediv_eq_zero_of_lt (by omega) h
        have HQ := Lib.hid hq0
        rw [← hNN] at s1 s2 s3 s4 s5
        have p1 : (2 : Int) ^ n.toNat = N := hNN.symm
        clear hq0 hNN s5
        obtain ⟨t, ht⟩ : ∃ t, t = bitAt x j := ⟨_, rfl⟩
        have e1 : bits .and .i64 (x / 2 ^ j) 1 = t := by rw [ht]; exact and_one_bit x j
        have HT := Lib.hid ht
        have ht01 : t = 0 ∨ t = 1 := by rw [ht]; exact bitAt_two x j
        clear ht
        by_cases hxN : x < N
        · have hxN1 : decide (N ≤ x) = false := by simp; omega
          have hxN2 : decide (x < N) = true := by simp; omega
          rcases ht01 with rfl | rfl
          · have HOK : Hid (OkRow n l j) := ⟨by rw [← HX.out]; omega, by rw [← HX.out]; exact HQ.out.2 hxN, by rw [← HX.out]; exact HT.out.symm⟩
            go_wp2
            go_quiet (fail)
            go_wp2
            clear e1
            go_loopw [4] (fun i wr => ∃ k : Nat, k ≤ l.length ∧ i = .int .i64 k ∧ Below (w.heap.size + 1) (w.alloc (.cells #[.int .i64 n, .slice (some ⟨b, off, none⟩) l.length cap] 27)) wr ∧ Hid (∀ v, v < k → bitAt (nth l j) v = 1 → bitAt (nth l v) j = 1)) (fun i _ => l.length - (intOf i).toNat)
            case atStart => exact ⟨0, by omega, rfl, below_drewN hbel _, fun v hv => absurd hv (by omega)⟩
            case round =>
              clear d0 d1 hB hbel c1
              obtain ⟨k, hk, rfl, hbel, HK⟩ := hrel
              obtain ⟨d0, d1, hcell, hB⟩ := HBX.out _ hbel
              have c1 := hcell j hlt
              rw [← HX.out] at c1
              by_cases hkt : k < l.length
              · obtain ⟨y, hy⟩ : ∃ y, y = nth l k := ⟨_, rfl⟩
                have c2 := hcell k hkt
                rw [← hy] at c2
                obtain ⟨t1, ht1⟩ : ∃ t, t = bitAt x k := ⟨_, rfl⟩
                have e1 : bits .and .i64 (x / 2 ^ k) 1 = t1 := by rw [ht1]; exact and_one_bit x k
                have z1 : t1 = 0 ∨ t1 = 1 := by rw [ht1]; exact bitAt_two _ _
                obtain ⟨t2, ht2⟩ : ∃ t, t = bitAt y j := ⟨_, rfl⟩
                have e2 : bits .and .i64 (y / 2 ^ j) 1 = t2 := by rw [ht2]; exact and_one_bit y j
                have z2 : t2 = 0 ∨ t2 = 1 := by rw [ht2]; exact bitAt_two _ _
                have hkn : (k : Int) < n := by omega
                have HY := Lib.hid hy
                have HT1 := Lib.hid ht1
                have HT2 := Lib.hid ht2
                clear hcell hy ht1 ht2
                have HR : Hid ((bitAt (nth l j) k = 1 → bitAt (nth l k) j = 1) → ∀ v, v < k + 1 → bitAt (nth l j) v = 1 → bitAt (nth l v) j = 1) := fun hh v hv => by
                  rcases Nat.lt_or_ge v k with h | h
                  · exact HK.out v h
                  · obtain rfl : v = k := by omega
                    exact hh
                rcases z1 with rfl | rfl
                · go_wp2
                  go_quiet (fail)
                  go_wp2
                  go_roundw
                  case rel => exact ⟨k + 1, by omega, by go_num, below_drewN hbel _, HR.out fun h => by rw [← HX.out, ← HT1.out] at h; exact absurd h (by decide)⟩
                  case measure => simp [intOf]; omega
                · by_cases y0 : y < 0
                  · have y0' : decide (y < 0) = true := by simp [y0]
                    go_wp2
                    go_quiet (fail)
                    go_wp2
                    go_ret
                    exact SaysB.no (fun hg => by have := (hg.2.2.2 k hkt).1.1; rw [← HY.out] at this; omega) (below_drewN hB _)
                  · have y0' : decide (y < 0) = false := by simp; omega
                    by_cases yN : y < N
                    · have yN1 : decide (N ≤ y) = false := by simp; omega
                      have yN2 : decide (y < N) = true := by simp; omega
                      rcases z2 with rfl | rfl
                      · go_wp2
                        go_quiet (fail)
                        go_wp2
                        go_ret
                        exact SaysB.no (fun hg => by
                          have := (hg.2.2.2 j hlt).2 k hkt
                          unfold OkPair at this
                          rw [← HX.out, ← HY.out, ← HT1.out, ← HT2.out] at this
                          exact absurd this (by decide)) (below_drewN hB _)
                      · go_wp2
                        go_quiet (fail)
                        go_wp2
                        go_roundw
                        case rel => exact ⟨k + 1, by omega, by go_num, below_drewN hbel _, HR.out fun _ => by rw [← HY.out, ← HT2.out]⟩
                        case measure => simp [intOf]; omega
                    · have yN1 : decide (N ≤ y) = true := by simp; omega
                      have yN2 : decide (y < N) = false := by simp; omega
                      go_wp2
                      go_quiet (fail)
                      go_wp2
                      go_ret
                      exact SaysB.no (fun hg => by
                        have := (hg.2.2.2 k hkt).1
                        have h2 := this.2.1
                        have h3 := this.1
                        rw [← HY.out] at h2 h3
                        have := HP.out y h3 h2
                        omega) (below_drewN hB _)
              · obtain rfl : k = l.length := by omega
                clear hcell
                go_wp2
                go_roundw
                case rel => exact ⟨j + 1, by omega, by go_num, hbel, fun v hv => by
                    rcases Nat.lt_or_ge v j with h | h
                    · exact HO.out v h
                    · obtain rfl : v = j := by omega
                      exact ⟨HOK.out, HK.out⟩⟩
                case measure => simp [intOf]; omega
          · go_wp2
            go_quiet (fail)
            go_wp2
            go_ret
            exact SaysB.no (HN.out fun hok => by have := hok.2.2; rw [← HX.out, ← HT.out] at this; exact absurd this (by decide)) (below_drewN hB _)
        · have hxN1 : decide (N ≤ x) = true := by simp; omega
          have hxN2 : decide (x < N) = false := by simp; omega
          go_wp2
          go_quiet (fail)
          go_wp2
          go_ret
          exact SaysB.no (HN.out fun hok => by have := hok.2.1; rw [← HX.out] at this; have := HQ.out.1 this; omega) (below_drewN hB _)
    · obtain rfl : j = l.length := by omega
      clear hcell
      go_wp2
      go_ret
      exact SaysB.yes ⟨hn, hn7, hl, fun v hv => ⟨(HO.out v hv).1, fun w hw => by
        have h1 := (HO.out v hv).2 w hw
        have h2 := (HO.out w hw).2 v hv
        show bitAt (nth l v) w = bitAt (nth l w) v
        rcases bitAt_two (nth l v) w with e | e <;> rcases bitAt_two (nth l w) v with e' | e' <;> simp_all⟩⟩ hB

set_option maxHeartbeats 1000000 in
theorem specIsG_any (n : Int) (v : Value) (l : List Int) (w : World) (h : Ints w v l) :
    Calls Try.prog 38 #[.agg #[.int .i64 n, v]] w (SaysB (IsG n l) w) := by
  by_cases hn : 1 ≤ n ∧ n ≤ 7
  · by_cases hl : (l.length : Int) = n
    · exact specIsG_in n v l w h hn.1 hn.2 hl
    · obtain ⟨a, cap, rfl, hc, hm⟩ := h.form
      clear h
      have hd3 : ((l.length : Int) != n) = true := by simp [hl]
      have HL := Lib.hid hl
      have h0 := hn.1
      have h1 := hn.2
      clear hl hn
      go_enter Try.func38, Try.ntmps38
      go_wp2_with fail
      refine (l1In_yes' _ _ _ _ h0 h1).mono ?_
      rintro e w1 ⟨rfl, rfl⟩
      go_wp2
      go_ret
      exact SaysB.no (fun hg => HL.out hg.2.2.1) ((Below.refl _ w).alloc (Nat.le_refl _) _)
  · obtain ⟨a, cap, rfl, hc, hm⟩ := h.form
    clear h
    have HN := Lib.hid hn
    clear hn
    go_enter Try.func38, Try.ntmps38
    go_wp2_with fail
    refine (l1In_no' _ _ _ _ HN.out).mono ?_
    rintro e w1 ⟨rfl, rfl⟩
    go_wp2
    go_ret
    exact SaysB.no (fun hg => HN.out ⟨hg.1, hg.2.1⟩) ((Below.refl _ w).alloc (Nat.le_refl _) _)

end Go.Proofs.Ytpifgmmmmhenmab
