/- spec.TreewidthOf. -/
import Derived.Test.YtpifgmmmmhenmacPt
import Derived.Test.YtpifgmmmmhenmacPz
namespace Go.Proofs.Ytpifgmmmmhenmac
set_option linter.unusedVariables false
set_option linter.unusedSimpArgs false
open Go.RowKit

theorem tree_next {n : Int} {l : List Int} (hg : IsG n l) {k : Nat} (h0 : 0 < k) (hk : k < 2 ^ l.length) :
    least0 (fun v => maxI (nth (tabW (treeC l) k) (k - 2 ^ v)) (treeC l (k - 2 ^ v) v)) (l.length : Int) (memN k) = nextW (treeC l) k := by
  have h128 := (full_castP hg).2.1
  have hne := memN_ne h0 (by omega)
  have hbd := nextW_bd (c := treeC l) (N := (l.length : Int)) (F := 2 ^ l.length) (by omega) fun b v h _ => tree_bd hg h
  rw [least0_is hne fun v hv => ?_]
  · rfl
  · have hb := (mem_memN hv).2
    have hp := bit_le hb
    have hp0 : 0 < 2 ^ v := Nat.pow_pos (by decide)
    show maxI (nth (tabW (treeC l) k) (k - 2 ^ v)) _ ≤ _
    rw [tabW_at _ (show k - 2 ^ v < k by omega)]
    have h1 := (hbd (k - 2 ^ v) (by omega)).2
    have h2 := (tree_bd hg (b := k - 2 ^ v) (v := v) (by omega)).2
    unfold maxI
    split <;> assumption

theorem off_same {l : List Int} (h7 : l.length ≤ 7) {Y S : Nat} (hY : Y < 2 ^ l.length) (hS : S < 2 ^ l.length) : Y &&& (2 ^ l.length - 1 - S) = Y &&& (127 ^^^ S) := by
  refine Nat.eq_of_testBit_eq fun i => ?_
  rw [Nat.testBit_and, Nat.testBit_and]
  cases hb : Y.testBit i with
  | false => rfl
  | true =>
    have hi : i < l.length := bit_lt hY hb
    have h1 : (2 ^ l.length - 1 - S).testBit i = !S.testBit i := by
      have := Nat.testBit_two_pow_sub_succ hS i
      rw [show 2 ^ l.length - 1 - S = 2 ^ l.length - (S + 1) by omega, this]
      simp [hi]
    have h2 : (127 ^^^ S).testBit i = !S.testBit i := by
      rw [Nat.testBit_xor]
      have : ∀ v : Fin 7, (127 : Nat).testBit v.val = true := by decide
      rw [this ⟨i, by omega⟩]
      simp
    rw [h1, h2]

set_option maxHeartbeats 4000000 in
set_option maxRecDepth 100000 in
theorem specTree9 (n : Int) (v : Value) (l : List Int) (w : World) (h : Ints w v l) :
    Calls Try.prog 22 #[.agg #[.int .i64 n, v]] w (SaysN (treeR n l) w) := by
  obtain ⟨a, cap, rfl, -, -⟩ := h.form
  have HA := argG' (T := 37) (n := n) h
  have HI := Lib.hid h
  obtain ⟨i0, hi, hz0, hz1, hz2⟩ := info_parts infoInt
  clear h
  go_enter Try.func22, Try.ntmps22
  go_wp2_with fail
  refine (specIsG_any n _ l _ (HI.out.alloc _)).mono ?_
  rintro e w1 ⟨r, rfl, hr, hb⟩
  have HB := Lib.hid (hb.mono (B' := w.heap.size + 1) (by simp))
  clear hb
  obtain ⟨c0, c1, cI, cB, hz⟩ := HA.out _ HB.out
  have HCB := Lib.hid cB
  clear cI cB
  cases r with
  | false =>
    have HN := Lib.hid (show treeR n l = -1 by unfold treeR; rw [if_neg (fun h => absurd (hr.2 h) (by decide))])
    clear hr
    go_wp2
    go_ret
    exact ⟨by rw [HN.out]; rfl, HCB.out⟩
  | true =>
    have HG := Lib.hid (hr.1 rfl)
    clear hr
    have HN := Lib.hid (show treeR n l = nextW (treeC l) (2 ^ l.length - 1) by unfold treeR; rw [if_pos HG.out])
    have hn7 := HG.out.2.1
    have hn1 := HG.out.1
    have hnl := HG.out.2.2.1
    obtain ⟨N, hN⟩ : ∃ N : Nat, N = l.length := ⟨_, rfl⟩
    obtain rfl : n = (N : Int) := by omega
    have HNL := Lib.hid hN
    obtain ⟨F, hF⟩ : ∃ F, F = 2 ^ l.length := ⟨_, rfl⟩
    have hF7 : F ≤ 128 := by rw [hF]; exact (full_castP HG.out).2.1
    have hF0 : 0 < F := by rw [hF]; exact (full_castP HG.out).2.2.1
    have HFF := Lib.hid hF
    obtain ⟨E, eE, hE⟩ : ∃ E, (2 : Int) ^ N = E ∧ E = (F : Int) := ⟨_, rfl, by rw [hF, hN]; push_cast; rfl⟩
    subst hE
    have g1 : IntKind.i64.wrap (1 * (F : Int)) = (F : Int) := IntWalk.i64_in _ (by omega) |>.trans (by omega)
    have g2 : IntKind.i64.wrap (F : Int) = (F : Int) := IntWalk.i64_in _ (by omega)
    have hbd := nextW_bd (c := treeC l) (N := (l.length : Int)) (F := F) (by omega) fun b v h _ => tree_bd HG.out (by rw [← hF]; exact h)
    have HBD := Lib.hid hbd
    have HT1 := Lib.hid (show tabW (treeC l) 1 = [0] by rfl)
    have HO1 := Lib.hid (show OwnI (w.heap.size + 1) (w1.alloc (.cells #[.int .i64 0] 3)) (.slice (some ⟨w1.heap.size, 0, none⟩) 1 1) (tabW (treeC l) 1) by
      rw [HT1.out]
      exact OwnI.oneP (Nat.le_trans (by simp) HB.out.size) (by omega) (by omega))
    have HB1 := Lib.hid (HB.out.alloc (by have := HB.out.size; simpa using this) (.cells #[.int .i64 0] 3))
    have hN7 : N ≤ 7 := by omega
    have hmin : min N 64 = N := by omega
    have g9 : wrap64 (F : Int) = (F : Int) := by
      have h : ∀ L : Fin 129, wrap64 ((L.val : Nat) : Int) = ((L.val : Nat) : Int) := by decide +kernel
      exact h ⟨F, by omega⟩
    have hW9 : wrap64 ((2 : Int) ^ N) = (F : Int) := by rw [eE]; exact g9
    clear hn7 hn1 hnl hN hF hbd hmin eE g9 g1 g2
    go_wp2
    clear c0 c1 hz
    have HWZ := Lib.hid (show w.heap.size + 1 ≤ w1.heap.size by have := HB.out.size; simpa using this)
    obtain ⟨wb, hwb⟩ : ∃ wb, wb = w1.alloc (.cells #[.int .i64 0] 3) := ⟨_, rfl⟩
    rw [← hwb] at HO1 HB1 ⊢
    obtain ⟨tb, htb⟩ : ∃ tb : Value, tb = .slice (some ⟨w1.heap.size, 0, none⟩) 1 1 := ⟨_, rfl⟩
    rw [← htb] at HO1 ⊢
    clear hwb htb
    go_loopw [3, 4, 5, 6, 7, 8] (fun tv xi _ _ _ _ wr => ∃ k : Nat, 1 ≤ k ∧ k ≤ F ∧ xi = .int .i64 k ∧ Hid (OwnI (w.heap.size + 1) wr tv (tabW (treeC l) k)) ∧ Hid (Below (w.heap.size + 1) (w.alloc (.cells #[.int .i64 (N : Int), .slice a l.length cap] 37)) wr)) (fun _ xi _ _ _ _ _ => F - (intOf xi).toNat)
    case atStart => exact ⟨1, by omega, by omega, rfl, HO1, HB1⟩
    case round =>
      clear HO1 HB1
      obtain ⟨k, hk1, hk, rfl, HO, HBW⟩ := hrel
      obtain ⟨c0, c1, cI, cB, cz⟩ := HA.out _ HBW.out
      have HCI := Lib.hid cI
      have HCB2 := Lib.hid cB
      clear cI cB
      by_cases hlt : k < F
      · have d0 : decide ((k : Int) < (F : Int)) = true := decide_eq_true (by omega)
        have d0' : decide (k < F) = true := decide_eq_true hlt
        obtain ⟨f, hf⟩ : ∃ f : Nat → Int, f = fun v => maxI (nth (tabW (treeC l) k) (k - 2 ^ v)) (treeC l (k - 2 ^ v) v) := ⟨_, rfl⟩
        have HF := Lib.hid hf
        clear hf
        go_wp2
        obtain ⟨wk, hwk⟩ : ∃ wk, wk = wr := ⟨_, rfl⟩
        rw [← hwk] at HO HBW HCI HCB2 c0 c1 cz ⊢
        clear hwk
        go_loopw [5, 6, 7, 8] (fun lv xi _ _ w9 => ∃ j : Nat, j ≤ N ∧ xi = .int .i64 j ∧ lv = .int .i64 (least0 f (N : Int) (memU (k : Int) j)) ∧ Hid (Below wk.heap.size wk w9)) (fun _ xi _ _ _ => N - (intOf xi).toNat)
        case atStart => exact ⟨0, by omega, rfl, by first | rfl | (simp [memU, least0]; done), Lib.hid (Below.refl _ _)⟩
        case round =>
          obtain ⟨j, hj, rfl, rfl, HK9⟩ := hrel
          have HBW9 := Lib.hid (HBW.out.trans (HK9.out.mono (by omega)))
          have HO9 := Lib.hid (HO.out.on HK9.out)
          clear HCI HCB2 c0 c1
          obtain ⟨c0, c1, cI, cB, cz9⟩ := HA.out _ HBW9.out
          have HCI := Lib.hid cI
          clear cI cB
          by_cases hlj : j < N
          · have d1 : decide ((j : Int) < (N : Int)) = true := decide_eq_true (by omega)
            have d1' : decide (j < N) = true := decide_eq_true hlj
            obtain ⟨t, ht⟩ : ∃ t, t = bitAt (k : Int) j := ⟨_, rfl⟩
            have e1 : bits .and .i64 ((k : Int) / 2 ^ j) 1 = t := by rw [ht]; exact and_one_bit _ j
            have z1 : t = 0 ∨ t = 1 := by rw [ht]; exact bitAt_two _ _
            have HT9 := Lib.hid ht
            have HMS := Lib.hid (memU_succ (k : Int) j)
            obtain ⟨L0, hL0⟩ : ∃ L, L = least0 f (N : Int) (memU (k : Int) j) := ⟨_, rfl⟩
            have HL0 := Lib.hid hL0
            rw [← hL0]
            clear ht hL0
            rcases z1 with rfl | rfl
            · have HE := Lib.hid (show least0 f (N : Int) (memU (k : Int) (j + 1)) = L0 by rw [HMS.out, if_neg (by rw [← HT9.out]; decide), List.append_nil, ← HL0.out])
              go_wp2
              go_roundw
              case rel => exact ⟨j + 1, by omega, by go_num, by rw [HE.out], HK9⟩
              case measure => simp [intOf]; omega
            · have hb : k.testBit j = true := (bitAt_nat k j).1 HT9.out.symm
              have hkl : k < 2 ^ l.length := by rw [← HFF.out]; exact hlt
              have h7 : l.length ≤ 7 := (full_castP HG.out).2.2.2.2
              have hjl : j < l.length := bit_lt hkl hb
              have h2j : 2 ^ j < 2 ^ l.length := Nat.pow_lt_pow_right (by decide) hjl
              have hp := bit_le hb
              have hp0 : 0 < 2 ^ j := Nat.pow_pos (by decide)
              obtain ⟨b, hbb⟩ : ∃ b, b = k - 2 ^ j := ⟨_, rfl⟩
              have hbk' : b + 2 ^ j = k := by omega
              obtain ⟨A, hA⟩ : ∃ A, A = nextW (treeC l) b := ⟨_, rfl⟩
              have hcA : nth (tabW (treeC l) k) b = A := by rw [hA]; exact tabW_at _ (by omega)
              obtain ⟨Z, hZ⟩ : ∃ Z, Z = itN (rowN l) k (2 ^ j) l.length := ⟨_, rfl⟩
              have hZl : Z < 2 ^ l.length := by rw [hZ]; exact it_lt HG.out h2j _
              obtain ⟨Y, hY⟩ : ∃ Y, Y = aroundN (rowN l) Z := ⟨_, rfl⟩
              have hYl : Y < 2 ^ l.length := by rw [hY]; exact around_lt HG.out hZl
              obtain ⟨D, hD⟩ : ∃ D, D = Y &&& (2 ^ l.length - 1 - k) := ⟨_, rfl⟩
              obtain ⟨B, hB⟩ : ∃ B, B = popU (D : Int) := ⟨_, rfl⟩
              have hFk : F = 2 ^ l.length := HFF.out
              have hBt : treeC l b j = B := by
                unfold treeC parN
                rw [hbk', hB, hD, off_same h7 hYl hkl, hY, hZ]
              have hfj : f j = maxI A B := by
                rw [HF.out]
                dsimp only
                rw [← hbb, hcA, hBt]
              have HE := Lib.hid (show least0 f (N : Int) (memU (k : Int) (j + 1)) = if L0 < maxI A B then L0 else maxI A B by
                rw [HMS.out, if_pos (by rw [← HT9.out]), least0_snoc, ← HL0.out, hfj])
              obtain ⟨P1, eP1, hP11, hP12⟩ : ∃ P, (2 : Int) ^ j = P ∧ 1 ≤ P ∧ P ≤ 128 := ⟨_, rfl, (shl_one' j (by omega)).2.2.2.2, (shl_one' j (by omega)).2.2.2.1⟩
              have g3 : IntKind.i64.wrap (1 * P1) = P1 := IntWalk.i64_in _ (by omega) |>.trans (by omega)
              have g4 : IntKind.i64.wrap P1 = P1 := IntWalk.i64_in _ (by omega)
              have hP1n : P1 = ((2 ^ j : Nat) : Int) := by rw [← eP1]; push_cast; rfl
              have e2 : (k : Int) - P1 = (b : Int) := by omega
              have g5 : IntKind.i64.wrap ((k : Int) - P1) = (b : Int) := by rw [e2]; exact IntWalk.i64_in _ (by omega)
              have hF2 : F ≤ 128 := hF7
              have g6 : IntKind.i64.wrap ((F : Int) - 1) = (F : Int) - 1 := IntWalk.i64_in _ (by omega) |>.trans (by omega)
              have g7 : IntKind.i64.wrap ((F : Int) - 1 - (k : Int)) = ((2 ^ l.length - 1 - k : Nat) : Int) := by
                rw [show ((F : Int) - 1 - (k : Int)) = ((2 ^ l.length - 1 - k : Nat) : Int) by omega]
                exact IntWalk.i64_in _ (by omega)
              obtain ⟨C, hC⟩ : ∃ C, C = 2 ^ l.length - 1 - k := ⟨_, rfl⟩
              have g8 : bits .and .i64 (Y : Int) (C : Int) = (D : Int) := by rw [hD, hC]; exact (bits_nat _ _ (by omega) (by omega)).1
              rw [← hC] at g7
              obtain ⟨bt, offt, cpt, hv9, _, hmt, hbt, hct⟩ := HO9.out.ints.pos (by rw [tabW_length]; omega)
              rw [tabW_length] at hv9
              have f2 := hct b (by rw [tabW_length]; omega)
              rw [hcA] at f2
              have hbk : b < k := by omega
              have e1' : bits .and .i64 ((k : Int) / P1) 1 = 1 := by rw [← eP1]; exact e1
              unfold maxLen at hmt
              subst hv9
              have HHX : Hid (∀ X : Since wr, ArgG 37 w (N : Int) (.slice a l.length cap) l X.val ∧ X.val.cell? ⟨bt, offt + b, none⟩ = some (.int .i64 A)) := fun X => ⟨HA.out _ (HBW9.out.trans (X.prop.mono cz9)), (X.prop.cell (p := ⟨bt, offt + b, none⟩) hbt).trans f2⟩
              have hx0 : ∀ X : Since wr, X.val.cell? ⟨w.heap.size, 0, none⟩ = some (.int .i64 N) := fun X => (HHX.out X).1.1
              have hx1 : ∀ X : Since wr, X.val.cell? ⟨w.heap.size, 1, none⟩ = some (.slice a l.length cap) := fun X => (HHX.out X).1.2.1
              have HC1 : Hid (∀ X : Since wr, Calls Try.prog 45 #[.agg #[.int .i64 (N : Int), .slice a l.length cap], .int .i64 P1, .int .i64 k] X.val fun e w' => e = .returned (.int .i64 Z) ∧ Below X.val.heap.size X.val w') := fun X => by
                rw [hZ, hP1n]
                exact grow_is (N : Int) _ l (2 ^ j) k _ (HHX.out X).1.2.2.1 HG.out h2j hkl
              have HC2 : Hid (∀ X : Since wr, Calls Try.prog 44 #[.agg #[.int .i64 (N : Int), .slice a l.length cap], .int .i64 Z] X.val fun e w' => e = .returned (.int .i64 Y) ∧ Below X.val.heap.size X.val w') := fun X => by
                have := specAround (N : Int) _ l (Z : Int) _ (HHX.out X).1.2.2.1
                rw [aroundR_nat HG.out hZl, ← hY] at this
                exact this
              have HC3 : Hid (∀ W, Calls Try.prog 46 #[.int .i64 D] W fun e w' => e = .returned (.int .i64 B) ∧ Below W.heap.size W w') := fun W => by rw [hB]; exact specCountSet (D : Int) W
              have HMN : Hid (∀ M, M = maxI A B → (if M < L0 then M else L0) = least0 f (N : Int) (memU (k : Int) (j + 1))) := fun M hM => by rw [HE.out, ← hM]; split <;> split <;> omega
              clear hct hcA hA hbb e2 hkl h2j hjl hZ hZl hY hYl hD hB hBt hFk hP1n hC hbk' h7 hfj
              go_wp2
              refine wp_region_since (by kernel_rfl) (by kernel_rfl) ?_
              repeat (go_big_quiet_step (first | with_reducible exact since_call (HC1.out _) | with_reducible exact since_call (HC2.out _)))
              refine wpQuiet_nil ?_
              intro X
              obtain ⟨wx, hwx⟩ : ∃ wx, wx = X.val := ⟨_, rfl⟩
              have HQ := Lib.hid (show Below wr.heap.size wr wx by rw [hwx]; exact X.prop)
              rw [← hwx]
              clear hwx
              have hy0 : ∀ X : Since wx, X.val.cell? ⟨w.heap.size, 0, none⟩ = some (.int .i64 N) := fun X => hx0 ⟨X.val, HQ.out.trans (X.prop.mono HQ.out.size)⟩
              have hy2 : ∀ X : Since wx, X.val.cell? ⟨bt, offt + b, none⟩ = some (.int .i64 A) := fun X => (HHX.out ⟨X.val, HQ.out.trans (X.prop.mono HQ.out.size)⟩).2
              clear hx0 hx1
              go_wp2
              refine wp_region_since (by kernel_rfl) (by kernel_rfl) ?_
              repeat (go_big_quiet_step (with_reducible exact since_call (HC3.out _)))
              refine wpQuiet_nil ?_
              intro X2
              have HK2 := Lib.hid (HK9.out.trans ((HQ.out.trans (X2.prop.mono HQ.out.size)).mono HK9.out.size))
              clear hy0 hy2
              rw [HMN.out (if A < B then B else A) rfl]
              go_wp2
              go_roundw
              case rel => exact ⟨j + 1, by omega, by go_num, by first | rfl | trivial, HK2⟩
              case measure => simp [intOf]; omega
          · obtain rfl : j = N := by omega
            have d1 : decide ((j : Int) < (j : Int)) = false := by simp
            have d1' : decide (j < j) = false := by simp
            have hkl : k < 2 ^ l.length := by rw [← HFF.out]; exact hlt
            obtain ⟨M, hM⟩ : ∃ M, M = nextW (treeC l) k := ⟨_, rfl⟩
            have hLM : least0 f (j : Int) (memU (k : Int) j) = M := by
              have h1 := tree_next HG.out (by omega) hkl
              have h2 : memU (k : Int) j = memN k := memU_full (by rw [HNL.out]; exact hkl) hN7
              rw [h2, HF.out, HNL.out, hM]
              exact h1
            have hMb := HBD.out k hlt
            rw [← hM] at hMb
            have h7 : l.length ≤ 7 := (full_castP HG.out).2.2.2.2
            have HTS := Lib.hid (show tabW (treeC l) (k + 1) = tabW (treeC l) k ++ [M] by rw [tabW_succ, hM])
            have HTL := Lib.hid (tabW_length (treeC l) k)
            have y0 : -9223372036854775808 ≤ M := by omega
            have y1 : M ≤ 9223372036854775807 := by omega
            rw [hLM]
            have HO4 := HO9
            have HB4 := HBW9
            have hz4 : w.heap.size + 1 ≤ wr.heap.size := by omega
            clear hMb h7 hLM hM hkl
            go_wp2_with (at_builtin; refine wpList_append_int rfl (.tmp 60) (.tmp 62) 22 rfl (w.heap.size + 1) i0 Try.underlying22 hi hz0 hz1 hz2 _ (tabW (treeC l) k) rfl HO4.out M y0 y1 rfl (by rw [HTL.out]; omega) hz4 ?_)
            intro v' w5 ho hg hne
            have HO5 := Lib.hid (show OwnI (w.heap.size + 1) w5 v' (tabW (treeC l) (k + 1)) by rw [HTS.out]; exact ho)
            have HB5 := Lib.hid ((HB4.out.alloc hz4 _).grown hg (by simp; omega) (fun j hj => (HO4.out.lt j hj).1))
            clear ho hg hne HO4 HB4
            go_wp2
            go_roundw
            case rel => exact ⟨k + 1, by omega, by omega, by go_num, HO5, HB5⟩
            case measure => simp [intOf]; omega
      · obtain rfl : k = F := by omega
        have d0 : decide ((k : Int) < (k : Int)) = false := by simp
        have d0' : decide (k < k) = false := by simp
        obtain ⟨bt, offt, cpt, hv9, _, hmt, hbt, hct⟩ := HO.out.ints.pos (by rw [tabW_length]; omega)
        rw [tabW_length] at hv9
        obtain ⟨m, hm⟩ : ∃ m, k = m + 1 := ⟨k - 1, by omega⟩
        have f2 := hct m (by rw [tabW_length]; omega)
        rw [tabW_at _ (show m < k by omega)] at f2
        have HM := Lib.hid (show treeR (N : Int) l = nextW (treeC l) m by rw [HN.out, ← HFF.out, hm]; rfl)
        have q2 : IntKind.i64.wrap ((k : Int) - 1) = (m : Int) := IntWalk.i64_in _ (by omega) |>.trans (by omega)
        unfold maxLen at hmt
        have hmk : m < k := by omega
        subst hv9
        clear hct hm
        go_wp2
        go_ret
        exact ⟨by rw [HM.out]; rfl, HCB2.out⟩

end Go.Proofs.Ytpifgmmmmhenmac
