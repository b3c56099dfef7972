/- spec.TwinOrder. -/
import Derived.Test.YtgfndgjabhabjabTb
import Derived.Test.YtgfndgjabhabjabT7
import Derived.Test.YtgfndgjabhabjabH3
namespace Go.Proofs.Ytgfndgjabhabjab
set_option linter.unusedVariables false
set_option linter.unusedSimpArgs false
open Go.RowKit

theorem popU_popT (Y : Nat) (h : Y < 128) : popU (Y : Int) = ((popN Y : Nat) : Int) := by
  unfold popU
  rw [if_pos ⟨by omega, by omega⟩]
  unfold listU popN
  rw [List.length_map]
  exact congrArg (fun l : List Nat => (l.length : Int)) (memU_nat Y)

theorem pop_pow (v : Nat) (hv : v < 7) : popN (2 ^ v) ≤ 1 := by
  have : ∀ v : Fin 7, popN (2 ^ v.val) ≤ 1 := by decide
  exact this ⟨v, hv⟩

theorem twinF_big {l : List Int} {X : Nat} (h : 1 < popN X) (hX : X < 128) (v : Nat) : twinF l X v = twinB l X v := by
  unfold twinF
  have : (X == 2 ^ v) = false := by
    rw [beq_eq_false_iff_ne]
    intro e
    have hv : v < 7 := by
      rcases Nat.lt_or_ge v 7 with h7 | h7
      · exact h7
      · have := Nat.pow_le_pow_right (show 0 < 2 by decide) h7
        omega
    have := pop_pow v hv
    rw [← e] at this
    omega
  rw [this]
  rfl

theorem small_pop (X : Nat) (hX : X < 128) (h : popN X ≤ 1) : X = 0 ∨ ∃ v, v < 7 ∧ X = 2 ^ v ∧ memN X = [v] := by
  have : ∀ X : Fin 128, popN X.val ≤ 1 → X.val = 0 ∨ ∃ v : Fin 7, X.val = 2 ^ v.val ∧ memN X.val = [v.val] := by decide +kernel
  rcases this ⟨X, hX⟩ h with h | ⟨v, h1, h2⟩
  · exact .inl h
  · exact .inr ⟨v.val, v.isLt, h1, h2⟩

theorem takeO_last {l : List Int} {X fu : Nat} {L : List Int} (hX : X < 128) (h : popN X ≤ 1) (hf : popN X ≤ fu) : takeO (twinF l) fu L X = some (L ++ listU (X : Int) 7) := by
  have hu : listU (X : Int) 7 = (memN X).map fun v : Nat => (v : Int) := by
    unfold listU
    exact congrArg (List.map fun v : Nat => (v : Int)) (memU_nat X)
  rcases small_pop X hX h with rfl | ⟨v, hv, rfl, hm⟩
  · rw [takeO_zero, hu]
    simp [memN]
  · have hp : popN (2 ^ v) = 1 := by unfold popN; rw [hm]; rfl
    obtain ⟨fu', rfl⟩ : ∃ k, fu = k + 1 := ⟨fu - 1, by omega⟩
    have h0 : 0 < 2 ^ v := Nat.pow_pos (by decide)
    have hfd : (memN (2 ^ v)).find? (twinF l (2 ^ v)) = some v := by rw [hm]; simp [twinF]
    rw [takeO_some h0 hfd, Nat.sub_self, takeO_zero, hu, hm]
    rfl

set_option maxHeartbeats 4000000 in
set_option maxRecDepth 100000 in
theorem specTwin (n : Int) (v : Value) (l : List Int) (w : World) (h : Ints w v l) :
    Calls Try.prog 28 #[.agg #[.int .i64 n, v]] w (GetsLB w.heap.size w (twinR n l)) := by
  obtain ⟨i0, hi, hi0, hi1, hi2⟩ := info_parts infoInt
  obtain ⟨a, cap, rfl, -, -⟩ := h.form
  have HA := argG' (T := 28) (n := n) h
  have HI := Lib.hid h
  clear h
  obtain ⟨R, hR⟩ : ∃ R, R = twinR n l := ⟨_, rfl⟩
  have HR := Lib.hid hR
  rw [← hR]
  clear hR
  obtain ⟨w9, hw9⟩ : ∃ w9, w9 = (w.alloc (.cells #[.int .i64 n, .slice a l.length cap] 28)).alloc (.cells #[] 3) := ⟨_, rfl⟩
  have hb9 : Below (w.heap.size + 1) (w.alloc (.cells #[.int .i64 n, .slice a l.length cap] 28)) w9 := by rw [hw9]; exact (Below.refl _ _).alloc (by simp) _
  have HO9 := Lib.hid (show OwnI (w.heap.size + 1) w9 (.slice (some ⟨w.heap.size + 1, 0, none⟩) 0 0) [] by
    rw [hw9]
    have := OwnI.none0H (B := w.heap.size + 1) (w := w.alloc (.cells #[.int .i64 n, .slice a l.length cap] 28)) (by simp)
    simpa using this)
  obtain ⟨c0, c1, cI, cB, cz⟩ := HA.out _ hb9
  have HCI := Lib.hid cI
  have HB9 := Lib.hid hb9
  clear cI cB hb9
  go_enter Try.func28, Try.ntmps28
  go_wp2_with fail
  rw [← hw9]
  clear hw9
  refine (specIsG_any n _ l _ HCI.out).mono ?_
  rintro e w2 ⟨r, rfl, hr, hb⟩
  have HRR := Lib.hid hr
  have HB2 := Lib.hid (HB9.out.trans (hb.mono cz))
  have HO2 := Lib.hid (HO9.out.on hb)
  clear hb hr c0 c1 cz HO9 HB9
  obtain ⟨c0, c1, cI, cB, cz⟩ := HA.out _ HB2.out
  have HCB2 := Lib.hid cB
  clear cI cB
  cases r with
  | false =>
    have HN := Lib.hid (show R = none by rw [HR.out]; unfold twinR; rw [if_neg (fun h => absurd (HRR.out.2 h) (by decide))])
    go_wp2
    refine bodyPost_ret (v := .tuple #[.slice (some ⟨w.heap.size + 1, 0, none⟩) 0 0, .bool false]) (by simp [results, Try.results28, go_sem]) rfl ?_
    rw [HN.out]
    exact ⟨_, rfl, HO2.out.mono (by omega), HCB2.out⟩
  | true =>
    have HG := Lib.hid (HRR.out.1 (by first | rfl | trivial))
    obtain ⟨f1, f2⟩ := full_nat HG.out
    have hl7 : l.length ≤ 7 := by have := HG.out.2.1; have := HG.out.2.2.1; omega
    have hn0 := HG.out.1
    have hn7 := HG.out.2.1
    have hnl : n ≤ (l.length : Int) := by have := HG.out.2.2.1; omega
    have hln : (l.length : Int) ≤ n := by have := HG.out.2.2.1; omega
    obtain ⟨X0, hX0⟩ : ∃ X0, X0 = 2 ^ l.length - 1 := ⟨_, rfl⟩
    have HE := Lib.hid (show R = takeO (twinF l) 7 [] X0 by rw [HR.out]; unfold twinR; rw [if_pos HG.out, hX0])
    rw [← hX0] at f1 f2
    have h128 := two_le l.length hl7
    obtain ⟨P, eP, hP1, hP2⟩ : ∃ P, (2 : Int) ^ n.toNat = P ∧ 1 ≤ P ∧ P ≤ 128 := ⟨_, rfl, (shl_one' n.toNat (by omega)).2.2.2.2, (shl_one' n.toNat (by omega)).2.2.2.1⟩
    rw [eP] at f1
    have g1 : IntKind.i64.wrap (1 * P) = P := IntWalk.i64_in _ (by omega) |>.trans (by omega)
    have g2 : IntKind.i64.wrap P = P := IntWalk.i64_in _ (by omega)
    have g3 : IntKind.i64.wrap (P - 1) = (X0 : Int) := (IntWalk.i64_in _ (by omega)).trans f1
    have HF2 := Lib.hid f2
    clear hX0 f1 f2
    go_wp2
    clear c0 c1 cz g1 g2 g3 eP hP1 hP2
    go_loopw [4, 5] (fun s x wr => ∃ (X fu : Nat) (L : List Int), X < 2 ^ l.length ∧ x = .int .i64 (X : Int) ∧ popN X ≤ fu ∧ L.length + fu ≤ 7 ∧ Hid (OwnI (w.heap.size + 1) wr s L) ∧ Hid (R = takeO (twinF l) fu L X) ∧ Hid (Below (w.heap.size + 1) (w.alloc (.cells #[.int .i64 n, .slice a l.length cap] 28)) wr)) (fun _ x _ => (intOf x).toNat)
    case atStart =>
      refine ⟨X0, 7, [], HF2.out, rfl, ?_, by simp, HO2.out, HE.out, HB2.out⟩
      unfold popN memN
      exact Nat.le_trans (List.length_filter_le _ _) (by simp)
    case round =>
      clear HO2 HB2 HCB2
      obtain ⟨X, fu, L, hXl, rfl, hpop, hLf, HO, HRE, HB⟩ := hrel
      obtain ⟨c0, c1, cI, cB, cz⟩ := HA.out _ HB.out
      have HCI := Lib.hid cI
      have HCB := Lib.hid cB
      clear cI cB
      have hX7 : X < 128 := by omega
      go_wp2_with fail
      refine (specCountSet (X : Int) _).mono ?_
      rintro e wc ⟨rfl, hbc⟩
      have HBC := Lib.hid (HB.out.trans (hbc.mono cz))
      have HOC := Lib.hid (HO.out.on hbc)
      clear hbc c0 c1 cz HCI HCB HO HB
      obtain ⟨c0, c1, cI, cB, cz⟩ := HA.out _ HBC.out
      have HCI := Lib.hid cI
      have HCB := Lib.hid cB
      clear cI cB
      rw [popU_popT X hX7]
      obtain ⟨w8, hw8⟩ : ∃ x, x = wc := ⟨_, rfl⟩
      rw [← hw8] at c0 c1 cz HCI HCB HBC HOC ⊢
      clear hw8
      have HO := HOC
      have HB := HBC
      by_cases hX1 : 1 < popN X
      · have d0 : decide (1 < ((popN X : Nat) : Int)) = true := decide_eq_true (by omega)
        have d0' : decide (1 < popN X) = true := decide_eq_true hX1
        have hX0 : 0 < X := by
          rcases Nat.eq_zero_or_pos X with rfl | h
          · exact absurd hX1 (by decide)
          · exact h
        have HF2 : Hid (∀ v, twinF l X v = twinB l X v) := fun v => twinF_big hX1 hX7 v
        have hpp := pop_pos hX0 hX7
        obtain ⟨fu', rfl⟩ : ∃ k, fu = k + 1 := ⟨fu - 1, by omega⟩
        obtain ⟨pX, hpX⟩ : ∃ pX, pX = popN X := ⟨_, rfl⟩
        rw [← hpX] at d0 d0' hpp hpop hX1 ⊢
        have HPX := Lib.hid hpX
        clear hpX
        go_wp2
        clear c0 c1 cz d0 d0'
        go_loopw [6, 7] (fun s c wy => ∃ d : Nat, d ≤ l.length ∧ c = .int .i64 ((l.length : Int) - 1 - (d : Int)) ∧ s = .int .i64 (optV (downB (fun v => X.testBit v && twinF l X v) l.length d)) ∧ Hid (Below w8.heap.size w8 wy)) (fun _ c _ => (intOf c + 1).toNat)
        case atStart => exact ⟨0, by omega, by go_num, rfl, Below.refl _ _⟩
        case round =>
          obtain ⟨d, hd, rfl, rfl, HBY⟩ := hrel
          have HBB := Lib.hid (HB.out.trans (HBY.out.mono (HA.out _ HB.out).2.2.2.2))
          obtain ⟨c0, c1, cI, cB, cz⟩ := HA.out _ HBB.out
          have HCI2 := Lib.hid cI
          clear cI cB
          obtain ⟨o, ho⟩ : ∃ o, o = downB (fun v => X.testBit v && twinF l X v) l.length d := ⟨_, rfl⟩
          have HOO := Lib.hid ho
          rw [← ho]
          clear ho
          by_cases hlt : d < l.length
          · obtain ⟨k, hk⟩ : ∃ k : Nat, k = l.length - 1 - d := ⟨_, rfl⟩
            have hkl : k < l.length := by omega
            have ek : (l.length : Int) - 1 - (d : Int) = (k : Int) := by omega
            have HDN := Lib.hid (show downB (fun v => X.testBit v && twinF l X v) l.length (d + 1) = if (X.testBit k && twinF l X k) then some k else o by
              conv => lhs; unfold downB
              rw [← hk, HOO.out])
            have HEK := Lib.hid (show (l.length : Int) - 1 - ((d + 1 : Nat) : Int) = (k : Int) - 1 by omega)
            rw [ek]
            have hk7 : k < 7 := by omega
            have HTW := Lib.hid (show anyT l X k l.length = (X.testBit k && twinF l X k) by rw [HF2.out k]; exact anyT_is HG.out hXl)
            clear hk ek
            go_wp2
            go_loopw [6, 8] (fun s c9 wz => ∃ j : Nat, j ≤ l.length ∧ c9 = .int .i64 (j : Int) ∧ s = .int .i64 (optV (if anyT l X k j = true then some k else o)) ∧ Hid (Below w8.heap.size w8 wz)) (fun _ c9 _ => l.length - (intOf c9).toNat)
            case atStart => exact ⟨0, by omega, rfl, by simp [anyT], HBY.out⟩
            case round =>
              obtain ⟨j, hj, rfl, rfl, HBZ⟩ := hrel
              clear c0 c1 cz
              have HBB2 := Lib.hid (HB.out.trans (HBZ.out.mono (HA.out _ HB.out).2.2.2.2))
              obtain ⟨c0, c1, cI, cB, cz⟩ := HA.out _ HBB2.out
              obtain ⟨s0, hs0⟩ : ∃ s0, s0 = optV (if anyT l X k j = true then some k else o) := ⟨_, rfl⟩
              have HS0 := Lib.hid hs0
              rw [← hs0]
              clear hs0 cB
              by_cases hjl : j < l.length
              · obtain ⟨b0, off, cap', hv, _, hmx, hb, hcell⟩ := cI.pos (by omega)
                simp only [Value.slice.injEq] at hv
                obtain ⟨rfl, -, rfl⟩ := hv
                obtain ⟨hk2, hkz⟩ := HG.out.row_lt k hkl
                obtain ⟨hj2, hjz⟩ := HG.out.row_lt j hjl
                have e1 := hcell k hkl
                have e2 := hcell j hjl
                rw [hkz] at e1
                rw [hjz] at e2
                obtain ⟨zk, hzk⟩ : ∃ zk, zk = rowN l k := ⟨_, rfl⟩
                obtain ⟨zj, hzj⟩ : ∃ zj, zj = rowN l j := ⟨_, rfl⟩
                rw [← hzk] at e1 hk2
                rw [← hzj] at e2 hj2
                have dlt : decide ((j : Int) < n) = true := decide_eq_true (by omega)
                have hjn : (j : Int) < n := by omega
                obtain ⟨P2, eP2, hP21, hP22⟩ : ∃ P, (2 : Int) ^ k = P ∧ 1 ≤ P ∧ P ≤ 128 := ⟨_, rfl, (shl_one' k (by omega)).2.2.2.2, (shl_one' k (by omega)).2.2.2.1⟩
                have g1 : IntKind.i64.wrap (1 * P2) = P2 := IntWalk.i64_in _ (by omega) |>.trans (by omega)
                have g2 : IntKind.i64.wrap P2 = P2 := IntWalk.i64_in _ (by omega)
                obtain ⟨P3, eP3, hP31, hP32⟩ : ∃ P, (2 : Int) ^ j = P ∧ 1 ≤ P ∧ P ≤ 128 := ⟨_, rfl, (shl_one' j (by omega)).2.2.2.2, (shl_one' j (by omega)).2.2.2.1⟩
                have g3 : IntKind.i64.wrap (1 * P3) = P3 := IntWalk.i64_in _ (by omega) |>.trans (by omega)
                have g4 : IntKind.i64.wrap P3 = P3 := IntWalk.i64_in _ (by omega)
                have hp1 : 2 ^ k < 128 := by have := Nat.pow_lt_pow_right (show 1 < 2 by decide) hk7; simpa using this
                have hp2 : 2 ^ j < 128 := by have := Nat.pow_lt_pow_right (show 1 < 2 by decide) (show j < 7 by omega); simpa using this
                obtain ⟨Q, hQ⟩ : ∃ Q, Q = pairN k j := ⟨_, rfl⟩
                have hQ7 : Q < 128 := by rw [hQ]; exact pair_lt hk7 (by omega)
                have o1 : bits .or .i64 P2 P3 = (Q : Int) := by
                  have a1 : P2 = ((2 ^ k : Nat) : Int) := by rw [← eP2]; push_cast; rfl
                  have a2 : P3 = ((2 ^ j : Nat) : Int) := by rw [← eP3]; push_cast; rfl
                  rw [a1, a2, hQ]
                  exact (bits_nat (2 ^ k) (2 ^ j) hp1 hp2).2
                obtain ⟨A, hA9⟩ : ∃ A, A = X &&& Q := ⟨_, rfl⟩
                have o2 : bits .and .i64 (X : Int) (Q : Int) = (A : Int) := by rw [hA9]; exact (bits_nat X Q hX7 hQ7).1
                have HPP := Lib.hid (show pairP l X k j = (k != j && ((A == Q) && (zk &&& (X - Q) == zj &&& (X - Q)))) by unfold pairP; rw [← hQ, hA9, hzk, hzj])
                have HNO : Hid (pairP l X k j = false → s0 = optV (if anyT l X k (j + 1) = true then some k else o)) := fun h9 => by rw [anyT_succ, h9, Bool.or_false]; exact HS0.out
                have HYE : Hid (pairP l X k j = true → (k : Int) = optV (if anyT l X k (j + 1) = true then some k else o)) := fun h9 => by rw [anyT_succ, h9, Bool.or_true, if_pos rfl]; rfl
                unfold maxLen at hmx
                have hA8 : A ≤ X := by rw [hA9]; exact Nat.and_le_left
                have HA9 := Lib.hid hA9
                clear hcell hkz hjz hzk hzj hQ cI hp1 hp2 hA9
                by_cases hkj : k = j
                · have HF9 := Lib.hid (show pairP l X k j = false by rw [HPP.out, hkj]; simp)
                  have q0 : ((k : Int) != (j : Int)) = false := by rw [hkj]; simp
                  have HKJ := Lib.hid hkj
                  clear hkj
                  go_wp2
                  go_quiet (fail)
                  go_wp2
                  go_quiet (fail)
                  go_wp2
                  go_roundw
                  case rel => exact ⟨j + 1, by omega, by go_num, by rw [← HNO.out HF9.out], below_drewN HBZ.out _⟩
                  case measure => simp [intOf]; omega
                · have q0 : ((k : Int) != (j : Int)) = true := by rw [bne_iff_ne]; omega
                  by_cases hAQ : A = Q
                  · have q1 : ((A : Int) == (Q : Int)) = true := by simp [hAQ]
                    obtain ⟨D, hD⟩ : ∃ D, D = X - Q := ⟨_, rfl⟩
                    have hD7 : D < 128 := by omega
                    have o3 : IntKind.i64.wrap ((X : Int) - (Q : Int)) = (D : Int) := by
                      have e9 : (X : Int) - (Q : Int) = (D : Int) := by omega
                      rw [e9]
                      exact IntWalk.i64_in _ (by omega)
                    have o4 := (bits_nat zk D (by omega) hD7).1
                    have o5 := (bits_nat zj D (by omega) hD7).1
                    rw [hAQ, ← hD] at HPP
                    obtain ⟨U1, hU1⟩ : ∃ U1, U1 = zk &&& D := ⟨_, rfl⟩
                    obtain ⟨U2, hU2⟩ : ∃ U2, U2 = zj &&& D := ⟨_, rfl⟩
                    rw [← hU1] at o4 HPP
                    rw [← hU2] at o5 HPP
                    have HAQ := Lib.hid hAQ
                    have HNK := Lib.hid hkj
                    by_cases hUU : U1 = U2
                    · have q2 : ((U1 : Int) == (U2 : Int)) = true := by simp [hUU]
                      have HT9 := Lib.hid (show pairP l X k j = true by rw [HPP.out, hUU]; simp [hkj])
                      clear hUU hU1 hU2 hD hAQ hkj
                      go_wp2
                      go_quiet (fail)
                      go_wp2
                      go_quiet (fail)
                      go_wp2
                      go_roundw
                      case rel => exact ⟨j + 1, by omega, by go_num, by rw [← HYE.out HT9.out], below_drewN HBZ.out _⟩
                      case measure => simp [intOf]; omega
                    · have q2 : ((U1 : Int) == (U2 : Int)) = false := by rw [beq_eq_false_iff_ne]; omega
                      have HF9 := Lib.hid (show pairP l X k j = false by rw [HPP.out]; simp [hUU])
                      clear hUU hU1 hU2 hD hAQ hkj
                      go_wp2
                      go_quiet (fail)
                      go_wp2
                      go_quiet (fail)
                      go_wp2
                      go_roundw
                      case rel => exact ⟨j + 1, by omega, by go_num, by rw [← HNO.out HF9.out], below_drewN HBZ.out _⟩
                      case measure => simp [intOf]; omega
                  · have q1 : ((A : Int) == (Q : Int)) = false := by rw [beq_eq_false_iff_ne]; omega
                    have HF9 := Lib.hid (show pairP l X k j = false by rw [HPP.out]; simp [hAQ])
                    clear hAQ hkj
                    go_wp2
                    go_quiet (fail)
                    go_wp2
                    go_quiet (fail)
                    go_wp2
                    go_roundw
                    case rel => exact ⟨j + 1, by omega, by go_num, by rw [← HNO.out HF9.out], below_drewN HBZ.out _⟩
                    case measure => simp [intOf]; omega
              · obtain rfl : j = l.length := by omega
                have dlt : decide (((l.length : Nat) : Int) < n) = false := decide_eq_false (by omega)
                have HSE := Lib.hid (show s0 = optV (downB (fun v => X.testBit v && twinF l X v) l.length (d + 1)) by rw [HS0.out, HDN.out, HTW.out])
                clear cI
                go_wp2
                go_roundw
                case rel => exact ⟨d + 1, by omega, by first | (rw [HEK.out]; go_num) | rw [HEK.out], by rw [HSE.out], HBZ.out⟩
                case measure => first | (simp [intOf]; omega) | simp [intOf]
          · obtain rfl : d = l.length := by omega
            have ek : (l.length : Int) - 1 - (l.length : Int) = -1 := by omega
            have HFI := Lib.hid (show o = (memN X).find? (twinF l X) by rw [HOO.out, down_all, find_mem X l.length hl7 hXl])
            have HOY := Lib.hid (HO.out.on HBY.out)
            rw [ek]
            clear ek c0 c1
            cases o with
            | none =>
              have HN := Lib.hid (show R = none by rw [HRE.out, takeO_none hX0 HFI.out.symm])
              have HO6 := Lib.hid (OwnI.none0H (B := w.heap.size + 1) (w := wr) cz)
              have HB6 := Lib.hid (((HA.out _ HBB.out).2.2.2.1).alloc (by omega) (.cells #[] 3))
              rw [show optV none = -1 from rfl]
              go_wp2
              refine bodyPost_ret (v := .tuple #[.slice (some ⟨wr.heap.size, 0, none⟩) 0 0, .bool false]) (by simp [results, Try.results28, go_sem]) rfl ?_
              rw [HN.out]
              exact ⟨_, rfl, HO6.out.mono (by omega), HB6.out⟩
            | some b =>
              obtain ⟨n1, n2, n3, n4, n5, n6⟩ := find_facts hX7 HFI.out.symm
              have HNX := Lib.hid (show R = takeO (twinF l) fu' (L ++ [(b : Int)]) (X - 2 ^ b) by rw [HRE.out, takeO_some hX0 HFI.out.symm])
              obtain ⟨P2, eP2, hP21, hP22⟩ : ∃ P, (2 : Int) ^ b = P ∧ 1 ≤ P ∧ P ≤ 128 := ⟨_, rfl, (shl_one' b (by omega)).2.2.2.2, (shl_one' b (by omega)).2.2.2.1⟩
              have g3 : IntKind.i64.wrap (1 * P2) = P2 := IntWalk.i64_in _ (by omega) |>.trans (by omega)
              have g4 : IntKind.i64.wrap P2 = P2 := IntWalk.i64_in _ (by omega)
              obtain ⟨X', hX'⟩ : ∃ z, z = X - 2 ^ b := ⟨_, rfl⟩
              have g5 : IntKind.i64.wrap ((X : Int) - P2) = (X' : Int) := by
                have e2 : P2 = ((2 ^ b : Nat) : Int) := by rw [← eP2]; push_cast; rfl
                have e5 : (X : Int) - P2 = (X' : Int) := by rw [e2, hX']; omega
                rw [e5]
                exact IntWalk.i64_in _ (by omega)
              rw [← hX'] at n5 HNX
              have hX'l : X' < 2 ^ l.length := by rw [hX']; exact Nat.lt_of_le_of_lt (Nat.sub_le _ _) hXl
              have hX'X : X' < X := by have : 0 < 2 ^ b := Nat.pow_pos (by decide); omega
              have HPOP := Lib.hid (show popN X' ≤ fu' by have := HPX.out; omega)
              have hz3 := cz
              have hLl : L.length ≤ 7 := by omega
              clear n2 n3 n4 n5 n6 hX' hpop hpp
              rw [show optV (some b) = (b : Int) from rfl]
              go_wp2_with (at_builtin; refine wpList_append_int rfl (.tmp 75) (.tmp 77) 22 rfl (w.heap.size + 1) i0 Try.underlying22 hi hi0 hi1 hi2 _ _ rfl HOY.out (b : Int) (by omega) (by omega) rfl (by omega) hz3 ?_)
              intro v' w4 ho4 hg4 hv4
              have HO4 := Lib.hid ho4
              have HB4 := Lib.hid ((HBB.out.alloc hz3 (.cells #[.int .i64 (b : Int)] 3)).grown hg4 (by simp; omega) (fun k hk => (HOY.out.lt k hk).1))
              clear ho4 hg4
              go_wp2
              go_roundw
              case rel => exact ⟨X', fu', L ++ [(b : Int)], hX'l, rfl, HPOP.out, by simp; omega, HO4.out, HNX.out, HB4.out⟩
              case measure => first | (simp [intOf]; omega) | simp [intOf]
      · have d0 : decide (1 < ((popN X : Nat) : Int)) = false := decide_eq_false (by omega)
        have d0' : decide (1 < popN X) = false := decide_eq_false hX1
        have HRL := Lib.hid (show R = some (L ++ listU (X : Int) 7) by rw [HRE.out]; exact takeO_last hX7 (by omega) hpop)
        obtain ⟨pX, hpX⟩ : ∃ pX, pX = popN X := ⟨_, rfl⟩
        rw [← hpX] at d0 d0' ⊢
        have hLl : L.length ≤ 7 := by omega
        have hul : (listU (X : Int) 7).length ≤ 7 := by unfold listU; rw [List.length_map]; exact Nat.le_trans (List.length_filter_le _ _) (by simp)
        clear hpX hX1 hpop
        go_wp2_with fail
        refine (specListOf_yes (X : Int) _ (by omega) (by omega)).mono ?_
        rintro e wl ⟨ul, rfl, hol, hbl⟩
        have HOL := Lib.hid hol
        have HBL := Lib.hid (HB.out.trans (hbl.mono cz))
        have HOM := Lib.hid (HO.out.on hbl)
        have hzl : w.heap.size + 1 ≤ wl.heap.size := Nat.le_trans cz hbl.size
        have HNF := Lib.hid hol.ints.form
        clear hol hbl c0 c1 cz
        go_wp2_with (at_builtin; refine wpList_append_ints rfl (.tmp 83) (.tmp 85) 22 rfl (w.heap.size + 1) i0 Try.underlying22 hi hi0 hi1 hi2 _ _ rfl HOM.out ul (listU (X : Int) 7) rfl HOL.out.ints HOL.out.nilform (by omega) hzl ?_)
        intro v' w4 ho4 hg4 hv4
        have HO4 := Lib.hid ho4
        have HB4 := Lib.hid (HBL.out.grown hg4 hzl (fun k hk => (HOM.out.lt k hk).1))
        have HCB4 := Lib.hid (HA.out _ HB4.out).2.2.2.1
        clear ho4 hg4
        go_wp2
        refine bodyPost_ret (v := .tuple #[v', .bool true]) (by simp [results, Try.results28, go_sem] <;> rfl) rfl ?_
        rw [HRL.out]
        exact ⟨_, rfl, HO4.out.mono (by omega), HCB4.out⟩

end Go.Proofs.Ytgfndgjabhabjab
