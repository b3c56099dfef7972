/- spec.IsSimple. -/
import Derived.Test.YtpifgmmmmhenmaaSi
import Derived.Test.YtpifgmmmmhenmaaG3
namespace Go.Proofs.Ytpifgmmmmhenmaa
set_option linter.unusedVariables false
set_option linter.unusedSimpArgs false
open Go.RowKit

def badB (A B : Nat) : Bool := (bits .and .i64 (A : Int) (B : Int) != (A : Int)) && (bits .and .i64 (A : Int) (B : Int) != (B : Int))

theorem ov_bad (A B : Nat) (hA : A < 128) (hB : B < 128) (h : A &&& B ≠ 0) : ovS (A : Int) (B : Int) = badB A B := by
  have : ∀ (A B : Fin 128), A.val &&& B.val ≠ 0 → ovS ((A.val : Nat) : Int) ((B.val : Nat) : Int) = badB A.val B.val := by decide +kernel
  exact this ⟨A, hA⟩ ⟨B, hB⟩ h

theorem bad_comm (A B : Nat) : badB A B = badB B A := by
  unfold badB
  rw [and_comm' (B : Int) (A : Int), Bool.and_comm]

theorem bad_self (A : Nat) (hA : A < 128) : badB A A = false := by
  unfold badB
  rw [(bits_nat A A hA hA).1, Nat.and_self]
  simp

def klS (X i : Nat) : Nat := (memN X).getD i 0

theorem klS_mem {X i : Nat} (h : i < (memN X).length) : klS X i ∈ memN X := by
  unfold klS
  rw [List.getD_eq_getElem?_getD, List.getElem?_eq_getElem h]
  exact List.getElem_mem h

theorem klS_nth {X i : Nat} (h : i < (memN X).length) : nth ((memN X).map fun v : Nat => (v : Int)) i = ((klS X i : Nat) : Int) := by
  simp [nth, List.getD, klS, h]

theorem cls_bit (l : List Int) (a v : Nat) : (clsN l a).testBit v = ((rowN l a).testBit v || decide (a = v)) := by
  unfold clsN
  rw [Nat.testBit_or, Nat.testBit_two_pow]

theorem sim_common {n : Int} {l : List Int} (hg : IsG n l) {S V a : Nat} (hV : V < l.length) (hS : S.testBit V = true) (hSl : S < 2 ^ l.length) (ha : a ∈ memN (smN l S V)) : (smN l S a).testBit V = true ∧ a < l.length := by
  have h1 := (mem_memN ha).2
  unfold smN at h1 ⊢
  rw [Nat.testBit_and, cls_bit] at h1
  have h2 : S.testBit a = true := by simp at h1; exact h1.2
  have hal : a < l.length := bit_lt hSl h2
  refine ⟨?_, hal⟩
  rw [Nat.testBit_and, cls_bit, hS, hg.row_sym a V hal hV]
  simp at h1 ⊢
  rcases h1.1 with h3 | h3
  · exact .inl h3
  · exact .inr h3.symm

theorem sim_lt {n : Int} {l : List Int} (S i : Nat) (h7 : S < 128) : smN l S i < 128 := Nat.lt_of_le_of_lt Nat.and_le_right h7

theorem simOk_iff {n : Int} {l : List Int} (hg : IsG n l) {S V : Nat} (hV : V < l.length) (hS : S.testBit V = true) (hSl : S < 2 ^ l.length) (h7 : S < 128) :
    SimOk l S V ↔ ∀ i, i < (memN (smN l S V)).length → ∀ k, k < i → badB (smN l S (klS (smN l S V) i)) (smN l S (klS (smN l S V) k)) = false := by
  have key : ∀ a ∈ memN (smN l S V), ∀ b ∈ memN (smN l S V), ovS (smN l S a : Nat) (smN l S b : Nat) = badB (smN l S a) (smN l S b) := fun a ha b hb => by
    refine ov_bad _ _ (sim_lt (n := n) S a h7) (sim_lt (n := n) S b h7) fun h0 => ?_
    have h1 := (sim_common hg hV hS hSl ha).1
    have h2 := (sim_common hg hV hS hSl hb).1
    have h3 := congrArg (fun X => Nat.testBit X V) h0
    simp [Nat.testBit_and, h1, h2] at h3
  constructor
  · intro h i hi k hk
    rw [← key _ (klS_mem hi) _ (klS_mem (by omega))]
    exact h _ (klS_mem hi) _ (klS_mem (by omega))
  · intro h a ha b hb
    rw [key a ha b hb]
    obtain ⟨i, hi, rfl⟩ := List.getElem_of_mem ha
    obtain ⟨j, hj, rfl⟩ := List.getElem_of_mem hb
    have ei : (memN (smN l S V))[i] = klS (smN l S V) i := by simp [klS, List.getD, hi]
    have ej : (memN (smN l S V))[j] = klS (smN l S V) j := by simp [klS, List.getD, hj]
    rw [ei, ej]
    rcases Nat.lt_trichotomy i j with h' | h' | h'
    · rw [bad_comm]; exact h j hj i h'
    · subst h'; exact bad_self _ (sim_lt (n := n) S _ h7)
    · exact h i hi j h'

set_option maxHeartbeats 4000000 in
set_option maxRecDepth 100000 in
theorem specSimple (n : Int) (v : Value) (l : List Int) (x s : Int) (w : World) (h : Ints w v l) :
    Calls Try.prog 70 #[.agg #[.int .i64 n, v], .int .i64 x, .int .i64 s] w (SaysB (SimP n l x s) w) := by
  obtain ⟨a, cap, rfl, -, -⟩ := h.form
  have HA := argG' (T := 31) (n := n) h
  have HI := Lib.hid h
  clear h
  go_enter Try.func70, Try.ntmps70
  go_wp2_with fail
  refine (specIsSet n _ l s _ (HI.out.alloc _)).mono ?_
  rintro e w1 ⟨r, rfl, hr, hb⟩
  have HB := Lib.hid (hb.mono (B' := w.heap.size + 1) (by simp))
  clear hb
  obtain ⟨c0, c1, cI, cB, hz⟩ := HA.out _ HB.out
  have HCI := Lib.hid cI
  have HCB := Lib.hid cB
  clear cI cB
  cases r with
  | false =>
    have HN := Lib.hid (show ¬ SimP n l x s from fun h => absurd (hr.2 h.1) (by decide))
    clear hr
    go_wp2
    go_ret
    exact SaysB.no HN.out HCB.out
  | true =>
    have HS := Lib.hid (hr.1 rfl)
    clear hr
    have hn1 := HS.out.1.1
    have hn7 := HS.out.1.2.1
    have q1 : IntKind.i64.wrap (n - 1) = n - 1 := IntWalk.i64_in _ (by omega) |>.trans (by omega)
    by_cases hx : 0 ≤ x ∧ x < n
    · obtain ⟨S, hSs⟩ : ∃ S : Nat, S = s.toNat := ⟨_, rfl⟩
      obtain ⟨V, hVv⟩ : ∃ V : Nat, V = x.toNat := ⟨_, rfl⟩
      have HG := Lib.hid HS.out.1
      have hSn := HS.out.nat
      rw [← hSs] at hSn
      obtain ⟨rfl, hSl, hl7⟩ := hSn
      obtain rfl : x = (V : Int) := by omega
      have hVl : V < l.length := by have := HG.out.2.2.1; omega
      have h128 := two_le l.length hl7
      have hS7 : S < 128 := by omega
      obtain ⟨P, eP, hP1, hP2⟩ : ∃ P, (2 : Int) ^ V = P ∧ 1 ≤ P ∧ P ≤ 128 := ⟨_, rfl, (shl_one' V (by omega)).2.2.2.2, (shl_one' V (by omega)).2.2.2.1⟩
      have g1 : IntKind.i64.wrap (1 * P) = P := IntWalk.i64_in _ (by omega) |>.trans (by omega)
      have g2 : IntKind.i64.wrap P = P := IntWalk.i64_in _ (by omega)
      obtain ⟨t, ht⟩ : ∃ t, t = bitAt (S : Int) V := ⟨_, rfl⟩
      have e1 : bits .and .i64 ((S : Int) / P) 1 = t := by rw [ht, ← eP]; exact and_one_bit S V
      have z1 : t = 0 ∨ t = 1 := by rw [ht]; exact bitAt_two _ _
      have HT := Lib.hid ht
      have HX := Lib.hid hx
      clear hSs hVv ht
      rcases z1 with rfl | rfl
      · have HN := Lib.hid (show ¬ SimP n l (V : Int) (S : Int) from fun h => by have := h.2.2.1; rw [Int.toNat_natCast, ← HT.out] at this; cases this)
        go_wp2_with fail
        refine (l1In_yes' (V : Int) 0 (n - 1) _ (by omega) (by omega)).mono ?_
        rintro e w2 ⟨rfl, rfl⟩
        clear hx
        go_wp2
        go_ret
        exact SaysB.no HN.out HCB.out
      · go_wp2_with fail
        refine (l1In_yes' (V : Int) 0 (n - 1) _ (by omega) (by omega)).mono ?_
        rintro e w2 ⟨rfl, rfl⟩
        obtain ⟨bg, off, cap', hv9, _, hmx, hbk, hcell⟩ := HI.out.pos (by omega)
        simp only [Value.slice.injEq] at hv9
        obtain ⟨rfl, -, rfl⟩ := hv9
        unfold maxLen at hmx
        have HROW : Hid (∀ (k : Nat), k < l.length → ∀ W, Below (w.heap.size + 1) (w.alloc (.cells #[.int .i64 n, .slice (some ⟨bg, off, none⟩) l.length cap] 31)) W → W.cell? ⟨bg, off + k, none⟩ = some (.int .i64 (rowN l k : Nat))) := fun k hk W hW => by
          rw [← (HG.out.row_lt k hk).2]
          exact ((HA.out _ hW).2.2.2.1.cell (p := ⟨bg, off + k, none⟩) hbk).trans (hcell k hk)
        obtain ⟨R, hR⟩ : ∃ R, R = rowN l V := ⟨_, rfl⟩
        obtain ⟨C, hC⟩ : ∃ C, C = clsN l V := ⟨_, rfl⟩
        obtain ⟨X, hX⟩ : ∃ X, X = smN l S V := ⟨_, rfl⟩
        have hP7 : 2 ^ V < 128 := by have := Nat.pow_lt_pow_right (a := 2) (by decide) hVl; omega
        have hPn : P = ((2 ^ V : Nat) : Int) := by rw [← eP]; push_cast; rfl
        have k1 : bits .or .i64 (R : Int) P = (C : Int) := by rw [hR, hC, hPn]; exact (bits_nat _ _ (Nat.lt_of_lt_of_le (HG.out.row_lt V hVl).1 h128) hP7).2
        have k2 : bits .and .i64 (C : Int) (S : Int) = (X : Int) := by rw [hX, hC]; exact (bits_nat _ _ (cls_lt HG.out hVl) hS7).1
        have hXl : X < 2 ^ l.length := by rw [hX]; exact Nat.lt_of_le_of_lt Nat.and_le_right hSl
        have hX7 : X < 128 := by omega
        have HXE := Lib.hid hX
        have hq0 : ∀ Y : Since w1, Y.val.cell? ⟨w.heap.size, 0, none⟩ = some (.int .i64 n) := fun Y => (HA.out _ (HB.out.trans (Y.prop.mono hz))).1
        have hq1 : ∀ Y : Since w1, Y.val.cell? ⟨w.heap.size, 1, none⟩ = some (.slice (some ⟨bg, off, none⟩) l.length cap) := fun Y => (HA.out _ (HB.out.trans (Y.prop.mono hz))).2.1
        have hq2 : ∀ Y : Since w1, Y.val.cell? ⟨bg, off + V, none⟩ = some (.int .i64 R) := fun Y => by rw [hR]; exact HROW.out V hVl _ (HB.out.trans (Y.prop.mono hz))
        have HSIM := Lib.hid (simOk_iff HG.out hVl ((bitAt_nat S V).1 HT.out.symm) hSl hS7)
        clear hR hC hX hcell hPn c0 c1
        go_wp2_with fail
        refine wp_region_since_call 10 (by kernel_rfl) (by kernel_rfl) ?_
        simp only [List.take_succ_cons, List.take_zero, List.drop_succ_cons, List.drop_zero]
        repeat (go_big_quiet_step (fail))
        refine wpQuiet_nil ?_
        intro Y
        obtain ⟨wx, hwx⟩ : ∃ wx, wx = Y.val := ⟨_, rfl⟩
        have HBx := Lib.hid (show Below (w.heap.size + 1) (w.alloc (.cells #[.int .i64 n, .slice (some ⟨bg, off, none⟩) l.length cap] 31)) wx by rw [hwx]; exact HB.out.trans (Y.prop.mono hz))
        rw [← hwx]
        clear hwx hq0 hq1 hq2
        go_wp2_with fail
        refine (specListOf (X : Int) _).mono ?_
        rintro e wz ⟨vz, rfl, ho, hb⟩
        have hLM : listR (X : Int) = (memN X).map fun v : Nat => (v : Int) := by
          unfold listR
          rw [if_pos (by omega)]
          exact listU_nat X
        rw [hLM] at ho
        have HBz := Lib.hid (HBx.out.trans (hb.mono (by have := HBx.out.size; simpa using this)))
        have HO := Lib.hid ho
        clear ho hb hLM
        go_wp2
        refine thenQ_normal ?_
        repeat (go_big_quiet_step (fail))
        refine wpQuiet_nil ?_
        obtain ⟨m, hm⟩ : ∃ m, m = (memN X).length := ⟨_, rfl⟩
        obtain ⟨az, capz, rfl, -, -⟩ := HO.out.ints.form
        have hm7 : m ≤ 7 := by
          rw [hm, ← memU_nat]
          exact memU_le _ 7
        have HLN := Lib.hid (show ((memN X).map fun v : Nat => (v : Int)).length = m by rw [List.length_map, hm])
        rw [HLN.out]
        have HST : Hid (∀ W, Below wz.heap.size wz W → Ints W (.slice az m capz) ((memN X).map fun v : Nat => (v : Int)) ∧ Below (w.heap.size + 1) (w.alloc (.cells #[.int .i64 n, .slice (some ⟨bg, off, none⟩) l.length cap] 31)) W) := fun W hW => by
          have h1 := HO.out.ints.on hW
          rw [HLN.out] at h1
          exact ⟨h1, HBz.out.trans (hW.mono (by have := HBz.out.size; simpa using this))⟩
        have HMM := Lib.hid hm
        clear hm
        go_wp2
        go_loopw [8, 9, 10, 11] (fun x _ _ _ wr => ∃ i : Nat, i ≤ m ∧ x = .int .i64 i ∧ Hid (∀ i', i' < i → ∀ k, k < i' → badB (smN l S (klS X i')) (smN l S (klS X k)) = false) ∧ Hid (Below wz.heap.size wz wr)) (fun x _ _ _ _ => m - (intOf x).toNat)
        case atStart => exact ⟨0, by omega, rfl, Lib.hid (fun i' h => absurd h (by omega)), Lib.hid (Below.refl _ _)⟩
        case round =>
          obtain ⟨i, him, rfl, HJ, HBL⟩ := hrel
          by_cases hlt : i < m
          · have d0 : decide ((i : Int) < (m : Int)) = true := decide_eq_true (by omega)
            go_wp2
            go_loopw [9, 10, 11] (fun x _ _ wr => ∃ k : Nat, k ≤ i ∧ x = .int .i64 k ∧ Hid (∀ k', k' < k → badB (smN l S (klS X i)) (smN l S (klS X k')) = false) ∧ Hid (Below wz.heap.size wz wr)) (fun x _ _ _ => i - (intOf x).toNat)
            case atStart => exact ⟨0, by omega, rfl, Lib.hid (fun k' h => absurd h (by omega)), HBL⟩
            case round =>
              clear HBL
              obtain ⟨k, hki, rfl, HK, HBL⟩ := hrel
              by_cases hlk : k < i
              · have d1 : decide ((k : Int) < (i : Int)) = true := decide_eq_true (by omega)
                obtain ⟨hIn, hBw⟩ := HST.out _ HBL.out
                obtain ⟨bz, offz, cpz, hv8, _, hmz, hbz, hcz⟩ := hIn.pos (by rw [HLN.out]; omega)
                simp only [Value.slice.injEq] at hv8
                obtain ⟨rfl, -, rfl⟩ := hv8
                unfold maxLen at hmz
                obtain ⟨A, hA⟩ : ∃ A, A = klS X i := ⟨_, rfl⟩
                obtain ⟨B, hB⟩ : ∃ B, B = klS X k := ⟨_, rfl⟩
                have hiM : i < (memN X).length := by rw [← HMM.out]; exact hlt
                have hkM : k < (memN X).length := by omega
                have hAm : A ∈ memN X := by rw [hA]; exact klS_mem hiM
                have hBm : B ∈ memN X := by rw [hB]; exact klS_mem hkM
                have hAl : A < l.length := bit_lt hXl (mem_memN hAm).2
                have hBl : B < l.length := bit_lt hXl (mem_memN hBm).2
                have f1 := hcz i (by rw [HLN.out]; exact hlt)
                have f2 := hcz k (by rw [HLN.out]; omega)
                rw [klS_nth hiM, ← hA] at f1
                rw [klS_nth hkM, ← hB] at f2
                have f3 := HROW.out A hAl _ hBw
                have f4 := HROW.out B hBl _ hBw
                obtain ⟨c0, c1, -, -, -⟩ := HA.out _ hBw
                obtain ⟨R1, hR1⟩ : ∃ R, R = rowN l A := ⟨_, rfl⟩
                obtain ⟨R2, hR2⟩ : ∃ R, R = rowN l B := ⟨_, rfl⟩
                rw [← hR1] at f3
                rw [← hR2] at f4
                obtain ⟨P1, eP1, hP11, hP12⟩ : ∃ P, (2 : Int) ^ A = P ∧ 1 ≤ P ∧ P ≤ 128 := ⟨_, rfl, (shl_one' A (by omega)).2.2.2.2, (shl_one' A (by omega)).2.2.2.1⟩
                have g3 : IntKind.i64.wrap (1 * P1) = P1 := IntWalk.i64_in _ (by omega) |>.trans (by omega)
                have g4 : IntKind.i64.wrap P1 = P1 := IntWalk.i64_in _ (by omega)
                obtain ⟨P2, eP2, hP21, hP22⟩ : ∃ P, (2 : Int) ^ B = P ∧ 1 ≤ P ∧ P ≤ 128 := ⟨_, rfl, (shl_one' B (by omega)).2.2.2.2, (shl_one' B (by omega)).2.2.2.1⟩
                have g5 : IntKind.i64.wrap (1 * P2) = P2 := IntWalk.i64_in _ (by omega) |>.trans (by omega)
                have g6 : IntKind.i64.wrap P2 = P2 := IntWalk.i64_in _ (by omega)
                obtain ⟨C1, hC1⟩ : ∃ C, C = clsN l A := ⟨_, rfl⟩
                obtain ⟨C2, hC2⟩ : ∃ C, C = clsN l B := ⟨_, rfl⟩
                obtain ⟨D1, hD1⟩ : ∃ D, D = smN l S A := ⟨_, rfl⟩
                obtain ⟨D2, hD2⟩ : ∃ D, D = smN l S B := ⟨_, rfl⟩
                have o1 : bits .or .i64 (R1 : Int) P1 = (C1 : Int) := by
                  rw [hR1, hC1, ← eP1]
                  have h1 : 2 ^ A < 128 := by have := Nat.pow_lt_pow_right (a := 2) (by decide) hAl; omega
                  have h2 := (bits_nat _ (2 ^ A) (Nat.lt_of_lt_of_le (HG.out.row_lt A hAl).1 h128) h1).2
                  push_cast at h2
                  exact h2
                have o2 : bits .or .i64 (R2 : Int) P2 = (C2 : Int) := by
                  rw [hR2, hC2, ← eP2]
                  have h1 : 2 ^ B < 128 := by have := Nat.pow_lt_pow_right (a := 2) (by decide) hBl; omega
                  have h2 := (bits_nat _ (2 ^ B) (Nat.lt_of_lt_of_le (HG.out.row_lt B hBl).1 h128) h1).2
                  push_cast at h2
                  exact h2
                have o3 : bits .and .i64 (C1 : Int) (S : Int) = (D1 : Int) := by rw [hC1, hD1]; exact (bits_nat _ _ (cls_lt HG.out hAl) hS7).1
                have o4 : bits .and .i64 (C2 : Int) (S : Int) = (D2 : Int) := by rw [hC2, hD2]; exact (bits_nat _ _ (cls_lt HG.out hBl) hS7).1
                obtain ⟨E, hE⟩ : ∃ E, bits .and .i64 (D1 : Int) (D2 : Int) = E := ⟨_, rfl⟩
                obtain ⟨b1, hb1⟩ : ∃ b1, (E != (D1 : Int)) = b1 := ⟨_, rfl⟩
                obtain ⟨b2, hb2⟩ : ∃ b2, (E != (D2 : Int)) = b2 := ⟨_, rfl⟩
                have HBD := Lib.hid (show badB (smN l S (klS X i)) (smN l S (klS X k)) = (b1 && b2) by unfold badB; rw [← hA, ← hB, ← hD1, ← hD2, hE, hb1, hb2])
                clear hA hB hAm hBm hR1 hR2 hC1 hC2 hD1 hD2 hcz hIn hBw
                cases b1 with
                | false =>
                  go_wp2
                  go_quiet (fail)
                  go_wp2
                  go_quiet (fail)
                  go_wp2
                  go_roundw
                  case rel =>
                    refine ⟨k + 1, by omega, by go_num, Lib.hid (fun k' hk' => ?_), Lib.hid (by exact (below_drewN HBL.out _))⟩
                    rcases Nat.lt_or_ge k' k with h | h
                    · exact HK.out k' h
                    · obtain rfl : k' = k := by omega
                      rw [HBD.out]; rfl
                  case measure => simp [intOf]; omega
                | true =>
                  cases b2 with
                  | false =>
                    go_wp2
                    go_quiet (fail)
                    go_wp2
                    go_quiet (fail)
                    go_wp2
                    go_roundw
                    case rel =>
                      refine ⟨k + 1, by omega, by go_num, Lib.hid (fun k' hk' => ?_), Lib.hid (by exact (below_drewN HBL.out _))⟩
                      rcases Nat.lt_or_ge k' k with h | h
                      · exact HK.out k' h
                      · obtain rfl : k' = k := by omega
                        rw [HBD.out]; rfl
                    case measure => simp [intOf]; omega
                  | true =>
                    have HN := Lib.hid (show ¬ SimP n l (V : Int) (S : Int) from fun h => by
                      have h4 := h.2.2.2
                      rw [Int.toNat_natCast, Int.toNat_natCast] at h4
                      have h5 := HSIM.out.1 h4 i (by rw [← HXE.out]; exact hiM) k hlk
                      rw [← HXE.out, HBD.out] at h5
                      cases h5)
                    have HF := Lib.hid (HA.out _ ((HST.out _ HBL.out).2)).2.2.2.1
                    go_wp2
                    go_quiet (fail)
                    go_wp2
                    go_quiet (fail)
                    go_wp2
                    go_ret
                    exact SaysB.no HN.out (below_drewN HF.out _)
              · obtain rfl : k = i := by omega
                have d1 : decide ((k : Int) < (k : Int)) = false := by simp
                go_wp2
                go_roundw
                case rel =>
                  refine ⟨k + 1, by omega, by go_num, Lib.hid (fun i' hi' => ?_), HBL⟩
                  rcases Nat.lt_or_ge i' k with h | h
                  · exact HJ.out i' h
                  · obtain rfl : i' = k := by omega
                    exact HK.out
                case measure => simp [intOf]; omega
          · obtain rfl : i = m := by omega
            have d0 : decide ((i : Int) < (i : Int)) = false := by simp
            have HN := Lib.hid (show SimP n l (V : Int) (S : Int) from ⟨HS.out, HX.out, by rw [Int.toNat_natCast]; exact HT.out.symm, by
              rw [Int.toNat_natCast, Int.toNat_natCast]
              refine HSIM.out.2 ?_
              rw [← HXE.out, ← HMM.out]
              exact HJ.out⟩)
            have HF := Lib.hid (HA.out _ ((HST.out _ HBL.out).2)).2.2.2.1
            go_wp2
            go_ret
            exact SaysB.yes HN.out HF.out
    · have HN := Lib.hid (show ¬ SimP n l x s from fun h => hx h.2.1)
      go_wp2_with fail
      refine (l1In_no' x 0 (n - 1) _ (by omega)).mono ?_
      rintro e w2 ⟨rfl, rfl⟩
      clear hx
      go_wp2
      go_ret
      exact SaysB.no HN.out HCB.out

end Go.Proofs.Ytpifgmmmmhenmaa
