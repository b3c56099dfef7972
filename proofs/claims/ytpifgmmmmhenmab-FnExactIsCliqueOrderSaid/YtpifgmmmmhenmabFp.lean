/- Sets that follow one another: impl.followOneAnother, spec.l10Consecutive. -/
import Derived.Test.YtpifgmmmmhenmabFo
import Derived.Test.YtpifgmmmmhenmabQ
import Derived.Test.YtpifgmmmmhenmabG2
import Derived.Test.YtpifgmmmmhenmabGw
import Derived.BigQuiet
namespace Go.Proofs.Ytpifgmmmmhenmab
set_option linter.unusedVariables false
set_option linter.unusedSimpArgs false
open Go.RowKit

set_option maxHeartbeats 2000000 in
set_option maxRecDepth 100000 in
theorem follow_is (v : Value) (l : List Int) (w : World) (h : Ints w v l) (hs : Sets7 l) (hl : l.length ≤ 1048576) :
    Calls Try.prog 53 #[v] w (SaysB (OnceB (begL l) l.length) w) := by
  obtain ⟨a, cap, rfl, -, -⟩ := h.form
  have HI := Lib.hid h
  have HS := Lib.hid hs
  clear h hs
  go_enter Try.func53, Try.ntmps53
  go_wp2
  go_loopw [3, 4, 6, 9] (fun la gn _ xi wr => ∃ i G : Nat, i ≤ l.length ∧ xi = .int .i64 i ∧ la = .int .i64 (lastN l i : Nat) ∧ gn = .int .i64 (G : Nat) ∧ Hid (FolI l i G) ∧ wr = w) (fun _ _ _ xi _ => l.length - (intOf xi).toNat)
  case atStart => exact ⟨0, 0, by omega, rfl, by first | rfl | (simp [lastN]; done), by first | rfl | trivial, Lib.hid (fol_zero l), by first | rfl | trivial⟩
  case round =>
    obtain ⟨i, G, hil, rfl, rfl, rfl, HF, hw⟩ := hrel
    subst hw
    by_cases hlt : i < l.length
    · have d0 : decide ((i : Int) < (l.length : Int)) = true := decide_eq_true (by omega)
      have d0' : decide (i < l.length) = true := decide_eq_true hlt
      obtain ⟨b, off, cap', hv, _, hm, hb, hcell⟩ := HI.out.pos (by omega)
      simp only [Value.slice.injEq] at hv
      obtain ⟨rfl, -, rfl⟩ := hv
      unfold maxLen at hm
      obtain ⟨e1, e2⟩ := HS.out.at hlt
      have c0 := hcell i hlt
      rw [e1] at c0
      obtain ⟨A, hA⟩ : ∃ A, A = setAt l i := ⟨_, rfl⟩
      obtain ⟨L, hL⟩ : ∃ L, L = lastN l i := ⟨_, rfl⟩
      obtain ⟨N, hN⟩ : ∃ N, N = goneN l i G := ⟨_, rfl⟩
      have hL7 : L < 128 := by rw [hL]; exact lastN_lt HS.out hil
      have hN7 : N < 128 := by rw [hN]; exact goneN_lt HS.out hil HF.out.1
      rw [← hA] at c0 e2
      rw [← hL]
      have k1 : bits .andNot .i64 (L : Int) (A : Int) = ((L &&& (127 ^^^ A) : Nat) : Int) := andNot_any L A hL7 e2
      obtain ⟨M, hM⟩ : ∃ M, M = L &&& (127 ^^^ A) := ⟨_, rfl⟩
      have hM7 : M < 128 := by rw [hM]; exact Nat.lt_of_le_of_lt Nat.and_le_left hL7
      rw [← hM] at k1
      have k2 : bits .or .i64 (G : Int) (M : Int) = (N : Int) := by rw [hN, hM, hL, hA]; exact (bits_nat G _ HF.out.1 (by rw [← hA, ← hL, ← hM]; exact hM7)).2
      have k3 : bits .and .i64 (A : Int) (N : Int) = ((A &&& N : Nat) : Int) := (bits_nat A N e2 hN7).1
      obtain ⟨Z, hZ⟩ : ∃ Z, Z = A &&& N := ⟨_, rfl⟩
      rw [← hZ] at k3
      have HZ := Lib.hid (show Z = goneN l i G &&& setAt l i by rw [hZ, hN, hA, Nat.and_comm])
      have HLA := Lib.hid (show lastN l (i + 1) = A by rw [hA]; simp [lastN])
      have HNE := Lib.hid hN
      clear hcell hA hL hN hM hZ e1
      by_cases hz : Z = 0
      · have q0 : ((Z : Int) != 0) = false := by rw [bne_eq_false_iff_eq]; omega
        have HF2 := Lib.hid (fol_step HS.out hlt HF.out (by rw [← HZ.out]; exact hz))
        rw [← HNE.out] at HF2
        go_wp2
        go_roundw
        case rel => exact ⟨i + 1, N, by omega, by go_num, by rw [HLA.out], rfl, HF2, by first | rfl | trivial⟩
        case measure => simp [intOf]; omega
      · have q0 : ((Z : Int) != 0) = true := by rw [bne_iff_ne]; omega
        have HN := Lib.hid (fol_hit HS.out hlt HF.out (by rw [← HZ.out]; exact hz))
        go_wp2
        go_ret
        exact SaysB.no HN.out (Below.refl _ _)
    · obtain rfl : i = l.length := by omega
      have d0 : decide ((l.length : Int) < (l.length : Int)) = false := by simp
      have d0' : decide (l.length < l.length) = false := by simp
      have HN := Lib.hid (fol_all HF.out)
      go_wp2
      go_ret
      exact SaysB.yes HN.out (Below.refl _ _)

set_option maxHeartbeats 2000000 in
set_option maxRecDepth 100000 in
theorem consec_is (v : Value) (l : List Int) (w : World) (h : Ints w v l) (hs : Sets7 l) (hl : l.length ≤ 1048576) :
    Calls Try.prog 49 #[v] w (SaysB (OnceB (begL l) l.length) w) := by
  obtain ⟨a, cap, rfl, -, -⟩ := h.form
  have HI := Lib.hid h
  have HS := Lib.hid hs
  clear h hs
  go_enter Try.func49, Try.ntmps49
  go_wp2
  go_loopw [3, 4, 5] (fun xv _ _ wr => ∃ u : Nat, u ≤ 7 ∧ xv = .int .i64 u ∧ Hid (∀ j, j < u → cntB (begL l j) l.length ≤ 1) ∧ wr = w) (fun xv _ _ _ => 7 - (intOf xv).toNat)
  case atStart => exact ⟨0, by omega, rfl, Lib.hid (fun j h => absurd h (by omega)), by first | rfl | trivial⟩
  case round =>
    obtain ⟨u, hu, rfl, HJ, hw⟩ := hrel
    subst hw
    by_cases hlt : u < 7
    · have d0 : decide ((u : Int) < 7) = true := decide_eq_true (by omega)
      have d0' : decide (u < 7) = true := decide_eq_true hlt
      go_wp2
      obtain ⟨w9, hw9⟩ : ∃ w9, w9 = wr := ⟨_, rfl⟩
      subst hw9
      go_loopw [4, 5] (fun bg xi wr => ∃ i : Nat, i ≤ l.length ∧ xi = .int .i64 i ∧ bg = .int .i64 (cntB (begL l u) i : Nat) ∧ wr = w9) (fun _ xi _ => l.length - (intOf xi).toNat)
      case atStart => exact ⟨0, by omega, rfl, by first | rfl | (simp [cntB]; done), by first | rfl | trivial⟩
      case round =>
        obtain ⟨i, hil, rfl, rfl, hw⟩ := hrel
        subst hw
        have hcl := cntB_le (begL l u) i
        have HCS := Lib.hid (cntB_succ (begL l u) i)
        obtain ⟨c, hc⟩ : ∃ c, c = cntB (begL l u) i := ⟨_, rfl⟩
        have HC := Lib.hid hc
        rw [← hc] at hcl ⊢
        clear hc
        by_cases hli : i < l.length
        · have d1 : decide ((i : Int) < (l.length : Int)) = true := decide_eq_true (by omega)
          have d1' : decide (i < l.length) = true := decide_eq_true hli
          obtain ⟨b, off, cap', hv, _, hm, hb, hcell⟩ := HI.out.pos (by omega)
          simp only [Value.slice.injEq] at hv
          obtain ⟨rfl, -, rfl⟩ := hv
          unfold maxLen at hm
          obtain ⟨e1, e2⟩ := HS.out.at hli
          have c0 := hcell i hli
          rw [e1] at c0
          obtain ⟨A, hA⟩ : ∃ A, A = setAt l i := ⟨_, rfl⟩
          rw [← hA] at c0 e2
          obtain ⟨t, ht⟩ : ∃ t, t = bitAt (A : Int) u := ⟨_, rfl⟩
          have k1 : bits .and .i64 ((A : Int) / 2 ^ u) 1 = t := by rw [ht]; exact and_one_bit _ u
          have z1 : t = 0 ∨ t = 1 := by rw [ht]; exact bitAt_two _ _
          have HTA := Lib.hid (show t = 1 ↔ (setAt l i).testBit u = true by rw [ht, hA, bitAt_nat])
          clear ht hA e1
          rcases z1 with rfl | rfl
          · have HE := Lib.hid (show cntB (begL l u) (i + 1) = c by
              have hn : ¬ begL l u i = true := by
                intro h
                unfold begL at h
                rw [Bool.and_eq_true] at h
                exact absurd (HTA.out.2 h.1) (by decide)
              rw [HCS.out, if_neg hn, ← HC.out, Nat.add_zero])
            clear hcell
            go_wp2
            go_roundw
            case rel => exact ⟨i + 1, by omega, by go_num, by rw [HE.out], by first | rfl | trivial⟩
            case measure => simp [intOf]; omega
          · have hbA := HTA.out.1 rfl
            have g1 : IntKind.i64.wrap ((c : Int) + 1) = (c : Int) + 1 := IntWalk.i64_in _ (by omega) |>.trans (by omega)
            cases i with
            | zero =>
              rw [Nat.add_zero] at c0
              have HE := Lib.hid (show cntB (begL l u) (0 + 1) = c + 1 by
                rw [HCS.out, if_pos (by unfold begL; rw [hbA]; rfl), ← HC.out])
              clear hcell
              go_wp2
              go_roundw
              case rel => exact ⟨0 + 1, by omega, by go_num, by rw [HE.out]; go_num, by first | rfl | trivial⟩
              case measure => simp [intOf]; omega
            | succ j =>
              obtain ⟨f1, f2⟩ := HS.out.at (show j < l.length by omega)
              have c1 := hcell j (by omega)
              rw [f1] at c1
              obtain ⟨B, hB⟩ : ∃ B, B = setAt l j := ⟨_, rfl⟩
              rw [← hB] at c1 f2
              obtain ⟨s, hs⟩ : ∃ s, s = bitAt (B : Int) u := ⟨_, rfl⟩
              have k2 : bits .and .i64 ((B : Int) / 2 ^ u) 1 = s := by rw [hs]; exact and_one_bit _ u
              have z2 : s = 0 ∨ s = 1 := by rw [hs]; exact bitAt_two _ _
              have HSB := Lib.hid (show s = 1 ↔ (setAt l j).testBit u = true by rw [hs, hB, bitAt_nat])
              have q0 : (((j : Int) + 1) == 0) = false := by rw [beq_eq_false_iff_ne]; omega
              have q2 : IntKind.i64.wrap ((j : Int) + 1 - 1) = (j : Int) := IntWalk.i64_in _ (by omega) |>.trans (by omega)
              have q3 : (((j + 1 : Nat) : Int) == 0) = false := by rw [beq_eq_false_iff_ne]; omega
              have q4 : IntKind.i64.wrap (((j + 1 : Nat) : Int) - 1) = (j : Int) := IntWalk.i64_in _ (by omega) |>.trans (by omega)
              clear hs hB f1 hcell
              rcases z2 with rfl | rfl
              · have HE := Lib.hid (show cntB (begL l u) (j + 1 + 1) = c + 1 by
                  rw [HCS.out, if_pos, ← HC.out]
                  unfold begL
                  rw [hbA]
                  have : (setAt l (j + 1 - 1)).testBit u = false := by
                    rw [Nat.add_sub_cancel]
                    cases h : (setAt l j).testBit u with
                    | false => rfl
                    | true => exact absurd (HSB.out.2 h) (by decide)
                  rw [this]
                  simp)
                go_wp2
                go_roundw
                case rel => exact ⟨j + 1 + 1, by omega, by go_num, by rw [HE.out]; go_num, by first | rfl | trivial⟩
                case measure => simp [intOf]; omega
              · have HE := Lib.hid (show cntB (begL l u) (j + 1 + 1) = c by
                  have hn : ¬ begL l u (j + 1) = true := by
                    unfold begL
                    rw [Nat.add_sub_cancel, HSB.out.1 rfl]
                    simp
                  rw [HCS.out, if_neg hn, ← HC.out, Nat.add_zero])
                go_wp2
                go_roundw
                case rel => exact ⟨j + 1 + 1, by omega, by go_num, by rw [HE.out], by first | rfl | trivial⟩
                case measure => simp [intOf]; omega
        · obtain rfl : i = l.length := by omega
          have d1 : decide ((l.length : Int) < (l.length : Int)) = false := by simp
          have d1' : decide (l.length < l.length) = false := by simp
          by_cases hc1 : c ≤ 1
          · have d2 : decide ((1 : Int) < (c : Int)) = false := by simp; omega
            have d2' : decide (1 < c) = false := by simp; omega
            go_wp2
            go_roundw
            case rel =>
              refine ⟨u + 1, by omega, by go_num, Lib.hid (fun j hj => ?_), by first | rfl | trivial⟩
              rcases Nat.lt_or_ge j u with h | h
              · exact HJ.out j h
              · obtain rfl : j = u := by omega
                rw [← HC.out]
                exact hc1
            case measure => simp [intOf]; omega
          · have d2 : decide ((1 : Int) < (c : Int)) = true := decide_eq_true (by omega)
            have d2' : decide (1 < c) = true := decide_eq_true (by omega)
            have HN := Lib.hid (show ¬ OnceB (begL l) l.length from fun h => hc1 (by rw [HC.out]; exact h u hlt))
            go_wp2
            go_ret
            exact SaysB.no HN.out (Below.refl _ _)
    · obtain rfl : u = 7 := by omega
      have HN := Lib.hid (show OnceB (begL l) l.length from fun j hj => HJ.out j hj)
      go_wp2
      go_ret
      exact SaysB.yes HN.out (Below.refl _ _)

end Go.Proofs.Ytpifgmmmmhenmab
