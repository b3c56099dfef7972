/- spec.PathwidthOf. -/
import Derived.Test.YtpifgmmmmhenmacPy
import Derived.Test.YtpifgmmmmhenmacG3
namespace Go.Proofs.Ytpifgmmmmhenmac
set_option linter.unusedVariables false
set_option linter.unusedSimpArgs false
open Go.RowKit

/-- The least among the entries behind a set, and N. -/
theorem path_next {n : Int} {l : List Int} (hg : IsG n l) {k : Nat} (h0 : 0 < k) (hk : k < 2 ^ l.length) :
    maxI (least0 (fun v => nth (tabW (pathC l) k) (k - 2 ^ v)) (l.length : Int) (memN k)) ((bordN l k l.length : Nat) : Int) = nextW (pathC l) k := by
  have h128 := (full_castP hg).2.1
  have hne := memN_ne h0 (by omega)
  have hbd := nextW_bd (c := pathC l) (N := (l.length : Int)) (F := 2 ^ l.length) (by omega) fun b v _ _ => by
    have h1 := bord_le l (b + 2 ^ v) l.length
    unfold pathC
    omega
  rw [least0_is hne fun v hv => ?_, leastF_max hne]
  · unfold nextW
    refine leastF_congr fun v hv => ?_
    have hb := (mem_memN hv).2
    have h2 := (bit_off hb).2.1
    show maxI _ _ = maxI _ (pathC l (k - 2 ^ v) v)
    unfold pathC
    rw [h2]
  · have hb := (mem_memN hv).2
    have hp := bit_le hb
    have hp0 : 0 < 2 ^ v := Nat.pow_pos (by decide)
    show nth (tabW (pathC l) k) (k - 2 ^ v) ≤ _
    rw [tabW_at _ (show k - 2 ^ v < k by omega)]
    exact (hbd (k - 2 ^ v) (by omega)).2

theorem least0_bd (f : Nat → Int) (N : Int) (vs : List Nat) (h0 : 0 ≤ N) (h : ∀ v ∈ vs, 0 ≤ f v) : 0 ≤ least0 f N vs ∧ least0 f N vs ≤ N := by
  have key : ∀ (vs : List Nat) (a : Int), (0 ≤ a ∧ a ≤ N) → (∀ v ∈ vs, 0 ≤ f v) → 0 ≤ vs.foldl (fun a u => if a < f u then a else f u) a ∧ vs.foldl (fun a u => if a < f u then a else f u) a ≤ N := by
    intro vs
    induction vs with
    | nil => intro a ha _; exact ha
    | cons v t ih =>
      intro a ha h
      have hv := h v (by simp)
      exact ih _ (by dsimp only; split <;> omega) fun u hu => h u (by simp [hu])
  exact key vs N ⟨h0, Int.le_refl _⟩ h

theorem OwnI.oneP {B : Nat} {w : World} {x : Int} (hB : B ≤ w.heap.size) (h0 : -9223372036854775808 ≤ x) (h1 : x ≤ 9223372036854775807) : OwnI B (w.alloc (.cells #[.int .i64 x] 3)) (.slice (some ⟨w.heap.size, 0, none⟩) 1 1) [x] :=
  ⟨inI64_one h0 h1, by simp [iv], .inr ⟨w.heap.size, 1, #[.int .i64 x], rfl, hB, by show (w.heap.push _)[w.heap.size]? = _; rw [Array.getElem?_push_size], by simp, by unfold maxLen; omega, by simp, by simp [iv]⟩⟩

set_option maxHeartbeats 4000000 in
set_option maxRecDepth 100000 in
theorem specPath (n : Int) (v : Value) (l : List Int) (w : World) (h : Ints w v l) :
    Calls Try.prog 18 #[.agg #[.int .i64 n, v]] w (SaysN (pathR n l) w) := by
  obtain ⟨a, cap, rfl, -, -⟩ := h.form
  have HA := argG' (T := 37) (n := n) h
  have HI := Lib.hid h
  obtain ⟨i0, hi, hz0, hz1, hz2⟩ := info_parts infoInt
  clear h
  go_enter Try.func18, Try.ntmps18
  go_wp2_with fail
  refine (specIsG_any n _ l _ (HI.out.alloc _)).mono ?_
  rintro e w1 ⟨r, rfl, hr, hb⟩
  have HB := Lib.hid (hb.mono (B' := w.heap.size + 1) (by simp))
  clear hb
  obtain ⟨c0, c1, cI, cB, hz⟩ := HA.out _ HB.out
  have HCB := Lib.hid cB
  clear cI cB
  cases r with
  | false =>
    have HN := Lib.hid (show pathR n l = -1 by unfold pathR; rw [if_neg (fun h => absurd (hr.2 h) (by decide))])
    clear hr
    go_wp2
    go_ret
    exact ⟨by rw [HN.out]; rfl, HCB.out⟩
  | true =>
    have HG := Lib.hid (hr.1 rfl)
    clear hr
    have HN := Lib.hid (show pathR n l = nextW (pathC l) (2 ^ l.length - 1) by unfold pathR; rw [if_pos HG.out])
    have hn7 := HG.out.2.1
    have hn1 := HG.out.1
    have hnl := HG.out.2.2.1
    obtain ⟨N, hN⟩ : ∃ N : Nat, N = l.length := ⟨_, rfl⟩
    obtain rfl : n = (N : Int) := by omega
    have HNL := Lib.hid hN
    obtain ⟨F, hF⟩ : ∃ F, F = 2 ^ l.length := ⟨_, rfl⟩
    have hF7 : F ≤ 128 := by rw [hF]; exact (full_castP HG.out).2.1
    have hF0 : 0 < F := by rw [hF]; exact (full_castP HG.out).2.2.1
    have HFF := Lib.hid hF
    obtain ⟨E, eE, hE⟩ : ∃ E, (2 : Int) ^ N = E ∧ E = (F : Int) := ⟨_, rfl, by rw [hF, hN]; push_cast; rfl⟩
    subst hE
    have g1 : IntKind.i64.wrap (1 * (F : Int)) = (F : Int) := IntWalk.i64_in _ (by omega) |>.trans (by omega)
    have g2 : IntKind.i64.wrap (F : Int) = (F : Int) := IntWalk.i64_in _ (by omega)
    have hbd := nextW_bd (c := pathC l) (N := (l.length : Int)) (F := F) (by omega) fun b v _ _ => by
      have h1 := bord_le l (b + 2 ^ v) l.length
      unfold pathC
      omega
    have HBD := Lib.hid hbd
    have HT1 := Lib.hid (show tabW (pathC l) 1 = [0] by rfl)
    have HO1 := Lib.hid (show OwnI (w.heap.size + 1) (w1.alloc (.cells #[.int .i64 0] 3)) (.slice (some ⟨w1.heap.size, 0, none⟩) 1 1) (tabW (pathC l) 1) by
      rw [HT1.out]
      exact OwnI.oneP (Nat.le_trans (by simp) HB.out.size) (by omega) (by omega))
    have HB1 := Lib.hid (HB.out.alloc (by have := HB.out.size; simpa using this) (.cells #[.int .i64 0] 3))
    have hN7 : N ≤ 7 := by omega
    have hmin : min N 64 = N := by omega
    have g9 : wrap64 (F : Int) = (F : Int) := by
      have h : ∀ L : Fin 129, wrap64 ((L.val : Nat) : Int) = ((L.val : Nat) : Int) := by decide +kernel
      exact h ⟨F, by omega⟩
    have hW9 : wrap64 ((2 : Int) ^ N) = (F : Int) := by rw [eE]; exact g9
    clear hn7 hn1 hnl hN hF hbd hmin eE g9 g1 g2
    go_wp2
    clear c0 c1 hz
    have HWZ := Lib.hid (show w.heap.size + 1 ≤ w1.heap.size by have := HB.out.size; simpa using this)
    obtain ⟨wb, hwb⟩ : ∃ wb, wb = w1.alloc (.cells #[.int .i64 0] 3) := ⟨_, rfl⟩
    rw [← hwb] at HO1 HB1 ⊢
    obtain ⟨tb, htb⟩ : ∃ tb : Value, tb = .slice (some ⟨w1.heap.size, 0, none⟩) 1 1 := ⟨_, rfl⟩
    rw [← htb] at HO1 ⊢
    clear hwb htb
    go_loopw [3, 4, 5, 6] (fun tv xi _ _ wr => ∃ k : Nat, 1 ≤ k ∧ k ≤ F ∧ xi = .int .i64 k ∧ Hid (OwnI (w.heap.size + 1) wr tv (tabW (pathC l) k)) ∧ Hid (Below (w.heap.size + 1) (w.alloc (.cells #[.int .i64 (N : Int), .slice a l.length cap] 37)) wr)) (fun _ xi _ _ _ => F - (intOf xi).toNat)
    case atStart => exact ⟨1, by omega, by omega, rfl, HO1, HB1⟩
    case round =>
      clear HO1 HB1
      obtain ⟨k, hk1, hk, rfl, HO, HBW⟩ := hrel
      obtain ⟨c0, c1, cI, cB, cz⟩ := HA.out _ HBW.out
      have HCI := Lib.hid cI
      have HCB2 := Lib.hid cB
      clear cI cB
      by_cases hlt : k < F
      · have d0 : decide ((k : Int) < (F : Int)) = true := decide_eq_true (by omega)
        have d0' : decide (k < F) = true := decide_eq_true hlt
        obtain ⟨f, hf⟩ : ∃ f : Nat → Int, f = fun v => nth (tabW (pathC l) k) (k - 2 ^ v) := ⟨_, rfl⟩
        have HF := Lib.hid hf
        have hfb : ∀ v, k.testBit v = true → 0 ≤ f v ∧ f v ≤ 7 ∧ f v = nextW (pathC l) (k - 2 ^ v) := fun v hb => by
          have hp := bit_le hb
          have hp0 : 0 < 2 ^ v := Nat.pow_pos (by decide)
          have h1 := HBD.out (k - 2 ^ v) (by omega)
          have h7 : l.length ≤ 7 := by have := (full_castP HG.out).2.2.2.2; exact this
          have hfv : f v = nextW (pathC l) (k - 2 ^ v) := by
            rw [hf]
            dsimp only
            rw [tabW_at _ (show k - 2 ^ v < k by omega)]
          rw [hfv]
          exact ⟨h1.1, by omega, rfl⟩
        have HFB := Lib.hid hfb
        clear hfb hf
        go_wp2
        obtain ⟨wk, hwk⟩ : ∃ wk, wk = wr := ⟨_, rfl⟩
        rw [← hwk] at HO HBW HCI HCB2 c0 c1 cz ⊢
        clear hwk
        go_loopw [5, 6] (fun lv xi w9 => ∃ j : Nat, j ≤ N ∧ xi = .int .i64 j ∧ lv = .int .i64 (least0 f (N : Int) (memU (k : Int) j)) ∧ w9 = wk) (fun _ xi _ => N - (intOf xi).toNat)
        case atStart => exact ⟨0, by omega, rfl, by first | rfl | (simp [memU, least0]; done), by first | rfl | trivial⟩
        case round =>
          obtain ⟨j, hj, rfl, rfl, hw9⟩ := hrel
          subst hw9
          by_cases hlj : j < N
          · have d1 : decide ((j : Int) < (N : Int)) = true := decide_eq_true (by omega)
            have d1' : decide (j < N) = true := decide_eq_true hlj
            obtain ⟨t, ht⟩ : ∃ t, t = bitAt (k : Int) j := ⟨_, rfl⟩
            have e1 : bits .and .i64 ((k : Int) / 2 ^ j) 1 = t := by rw [ht]; exact and_one_bit _ j
            have z1 : t = 0 ∨ t = 1 := by rw [ht]; exact bitAt_two _ _
            have HT9 := Lib.hid ht
            have HMS := Lib.hid (memU_succ (k : Int) j)
            obtain ⟨L0, hL0⟩ : ∃ L, L = least0 f (N : Int) (memU (k : Int) j) := ⟨_, rfl⟩
            have HL0 := Lib.hid hL0
            rw [← hL0]
            clear ht hL0
            rcases z1 with rfl | rfl
            · have HE := Lib.hid (show least0 f (N : Int) (memU (k : Int) (j + 1)) = L0 by rw [HMS.out, if_neg (by rw [← HT9.out]; decide), List.append_nil, ← HL0.out])
              go_wp2
              go_roundw
              case rel => exact ⟨j + 1, by omega, by go_num, by rw [HE.out], by first | rfl | trivial⟩
              case measure => simp [intOf]; omega
            · have hb : k.testBit j = true := (bitAt_nat k j).1 HT9.out.symm
              obtain ⟨o1, o2, o3⟩ := HFB.out j hb
              have hp := bit_le hb
              have hp0 : 0 < 2 ^ j := Nat.pow_pos (by decide)
              obtain ⟨b, hbb⟩ : ∃ b, b = k - 2 ^ j := ⟨_, rfl⟩
              obtain ⟨A, hA⟩ : ∃ A, A = f j := ⟨_, rfl⟩
              have hcA : nth (tabW (pathC l) k) b = A := by rw [hA, HF.out, hbb]
              have HE := Lib.hid (show least0 f (N : Int) (memU (k : Int) (j + 1)) = if L0 < A then L0 else A by rw [HMS.out, if_pos (by rw [← HT9.out]), least0_snoc, ← HL0.out, ← hA])
              obtain ⟨P1, eP1, hP11, hP12⟩ : ∃ P, (2 : Int) ^ j = P ∧ 1 ≤ P ∧ P ≤ 128 := ⟨_, rfl, (shl_one' j (by omega)).2.2.2.2, (shl_one' j (by omega)).2.2.2.1⟩
              have g3 : IntKind.i64.wrap (1 * P1) = P1 := IntWalk.i64_in _ (by omega) |>.trans (by omega)
              have g4 : IntKind.i64.wrap P1 = P1 := IntWalk.i64_in _ (by omega)
              have e2 : (k : Int) - P1 = (b : Int) := by
                have h5 : ((2 ^ j : Nat) : Int) = P1 := by rw [← eP1]; push_cast; rfl
                omega
              have g5 : IntKind.i64.wrap ((k : Int) - P1) = (b : Int) := by rw [e2]; exact IntWalk.i64_in _ (by omega)
              obtain ⟨bt, offt, cpt, hv9, _, hmt, hbt, hct⟩ := HO.out.ints.pos (by rw [tabW_length]; omega)
              rw [tabW_length] at hv9
              have f2 := hct b (by rw [tabW_length]; omega)
              rw [hcA] at f2
              have hbk : b < k := by omega
              have e1' : bits .and .i64 ((k : Int) / P1) 1 = 1 := by rw [← eP1]; exact e1
              unfold maxLen at hmt
              subst hv9
              have HHA := Lib.hid hA
              clear hct hcA hA hbb e2 o3
              have HMN := Lib.hid (show (if A < L0 then A else L0) = least0 f (N : Int) (memU (k : Int) (j + 1)) by rw [HE.out]; split <;> split <;> omega)
              go_wp2
              go_roundw
              case rel => exact ⟨j + 1, by omega, by go_num, by rw [HMN.out], by first | rfl | trivial⟩
              case measure => simp [intOf]; omega
          · obtain rfl : j = N := by omega
            have d1 : decide ((j : Int) < (j : Int)) = false := by simp
            have d1' : decide (j < j) = false := by simp
            obtain ⟨L0, hL0⟩ : ∃ L, L = least0 f (j : Int) (memU (k : Int) j) := ⟨_, rfl⟩
            obtain ⟨B, hB⟩ : ∃ B, B = ((bordN l k l.length : Nat) : Int) := ⟨_, rfl⟩
            have hkl : k < 2 ^ l.length := by rw [← HFF.out]; exact hlt
            have HMX := Lib.hid (show (if L0 < B then B else L0) = nextW (pathC l) k by
              have h1 := path_next HG.out (by omega) hkl
              have h2 : memU (k : Int) j = memN k := memU_full (by rw [HNL.out]; exact hkl) hN7
              rw [hL0, h2, hB, HF.out, HNL.out]
              exact h1)
            obtain ⟨M, hM⟩ : ∃ M, M = nextW (pathC l) k := ⟨_, rfl⟩
            have hMb := HBD.out k hlt
            rw [← hM] at HMX hMb
            have h7 : l.length ≤ 7 := by have := (full_castP HG.out).2.2.2.2; exact this
            have HTS := Lib.hid (show tabW (pathC l) (k + 1) = tabW (pathC l) k ++ [M] by rw [tabW_succ, hM])
            have HTL := Lib.hid (tabW_length (pathC l) k)
            have y0 : -9223372036854775808 ≤ M := by omega
            have y1 : M ≤ 9223372036854775807 := by omega
            rw [← hL0]
            clear hL0 hM
            have HC := Lib.hid hB
            clear hMb h7
            go_wp2_with fail
            refine (front_is (j : Int) _ l k _ HCI.out HG.out hkl).mono ?_
            rintro e w4 ⟨rfl, hb⟩
            rw [← HC.out]
            have HO4 := Lib.hid (HO.out.on hb)
            have HB4 := Lib.hid (HBW.out.trans (hb.mono (by omega)))
            have hz4 : w.heap.size + 1 ≤ w4.heap.size := by have := hb.size; omega
            clear hb hB c0 c1 cz hkl
            go_wp2_with (rw [HMX.out]; at_builtin; refine wpList_append_int rfl (.tmp 40) (.tmp 46) 22 rfl (w.heap.size + 1) i0 Try.underlying22 hi hz0 hz1 hz2 _ (tabW (pathC l) k) rfl HO4.out M y0 y1 rfl (by rw [HTL.out]; omega) hz4 ?_)
            intro v' w5 ho hg hne
            have HO5 := Lib.hid (show OwnI (w.heap.size + 1) w5 v' (tabW (pathC l) (k + 1)) by rw [HTS.out]; exact ho)
            have HB5 := Lib.hid ((HB4.out.alloc hz4 _).grown hg (by simp; omega) (fun j hj => (HO4.out.lt j hj).1))
            clear ho hg hne HO4 HB4
            go_wp2
            go_roundw
            case rel => exact ⟨k + 1, by omega, by omega, by go_num, HO5, HB5⟩
            case measure => simp [intOf]; omega
      · obtain rfl : k = F := by omega
        have d0 : decide ((k : Int) < (k : Int)) = false := by simp
        have d0' : decide (k < k) = false := by simp
        obtain ⟨bt, offt, cpt, hv9, _, hmt, hbt, hct⟩ := HO.out.ints.pos (by rw [tabW_length]; omega)
        rw [tabW_length] at hv9
        obtain ⟨m, hm⟩ : ∃ m, k = m + 1 := ⟨k - 1, by omega⟩
        have f2 := hct m (by rw [tabW_length]; omega)
        rw [tabW_at _ (show m < k by omega)] at f2
        have HM := Lib.hid (show pathR (N : Int) l = nextW (pathC l) m by rw [HN.out, ← HFF.out, hm]; rfl)
        have q2 : IntKind.i64.wrap ((k : Int) - 1) = (m : Int) := IntWalk.i64_in _ (by omega) |>.trans (by omega)
        unfold maxLen at hmt
        have hmk : m < k := by omega
        subst hv9
        clear hct hm
        go_wp2
        go_ret
        exact ⟨by rw [HM.out]; rfl, HCB2.out⟩

end Go.Proofs.Ytpifgmmmmhenmac
