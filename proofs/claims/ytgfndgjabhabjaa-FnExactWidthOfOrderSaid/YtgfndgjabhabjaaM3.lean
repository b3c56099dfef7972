/- LaterNeighbours. -/
import Derived.Test.YtgfndgjabhabjaaM1
import Derived.Test.YtgfndgjabhabjaaQ
import Derived.Test.YtgfndgjabhabjaaGl
namespace Go.Proofs.Ytgfndgjabhabjaa
set_option linter.unusedVariables false
set_option linter.unusedSimpArgs false
open Go.RowKit

set_option maxHeartbeats 1000000 in
set_option maxRecDepth 100000 in
theorem index_at (v : Value) (l : List Int) (x : Int) (i : Nat) (w : World) (h : Ints w v l) (hi : i < l.length) (he : nth l i = x) (hf : ∀ j, j < i → nth l j ≠ x) :
    Calls Try.prog 119 #[v, .int .i64 x] w fun e w' => e = .returned (.int .i64 i) ∧ w = w' := by
  obtain ⟨b, off, cap, rfl, _, hm, hb, hcell⟩ := h.pos (by omega)
  have HC := Lib.hid hcell
  have HE := Lib.hid he
  have HF := Lib.hid hf
  unfold maxLen at hm
  clear h hcell he hf
  go_enter Try.func119, Try.ntmps119
  go_wp2
  go_loop [8] (fun c => ∃ k : Nat, k ≤ i ∧ c = .int .i64 k) (fun c => i - (intOf c).toNat)
  case atStart => exact ⟨0, by omega, rfl⟩
  case round =>
    obtain ⟨k, hk, rfl⟩ := hrel
    have hlt : k < l.length := by omega
    obtain ⟨z, hz⟩ : ∃ z, z = nth l k := ⟨_, rfl⟩
    have d1 := HC.out k hlt
    rw [← hz] at d1
    have HZ := Lib.hid hz
    clear hz
    by_cases hki : k < i
    · have q1 : (x == z) = false := by
        have := HF.out k hki
        rw [← HZ.out] at this
        simp; exact fun e => this e.symm
      go_wp2
      go_round
      case rel => exact ⟨k + 1, by omega, by go_num⟩
      case measure => simp [intOf]; omega
    · obtain rfl : k = i := by omega
      have hzx : z = x := by rw [HZ.out]; exact HE.out
      have q1 : (x == z) = true := by simp [hzx]
      clear hzx
      go_wp2
      go_ret
      exact ⟨rfl, rfl⟩

/-- A vertex of an order, and what is given of it. -/
theorem ord_at {n : Int} {lg l : List Int} (h : OrdP n lg l) {x : Int} (h0 : 0 ≤ x) (h1 : x < n) : ∃ i V : Nat, x = (V : Int) ∧ i < l.length ∧ kl l i = V ∧ nth l i = x ∧ (∀ j, j < i → nth l j ≠ x) ∧ V < lg.length ∧ lg.length ≤ 7 ∧ l.length = lg.length ∧ laterR n lg l x = ((lateN lg l V i : Nat) : Int) := by
  obtain ⟨h2, h3, h4⟩ := h.len
  obtain ⟨V, rfl⟩ := Int.eq_ofNat_of_zero_le h0
  obtain ⟨i, hi, hk⟩ := h.surj (show V < lg.length by omega)
  have h5 := h.1.at hi
  rw [hk] at h5
  refine ⟨i, V, rfl, hi, hk, h5.1, fun j hj he => ?_, by omega, h3, h2, ?_⟩
  · have h6 := h.1.at (show j < l.length by omega)
    have h7 : kl l j = kl l i := by rw [hk]; rw [he] at h6; omega
    have := h.1.inj (by omega) hi h7
    omega
  · have := laterR_at h hi
    rw [h5.1, hk] at this
    exact this

set_option maxHeartbeats 2000000 in
set_option maxRecDepth 100000 in
theorem implLater (n : Int) (v vl : Value) (lg l : List Int) (x : Int) (w : World) (h : Ints w v lg) (hl : Ints w vl l) (hlen : l.length ≤ 1048576) :
    Calls Try.prog 81 #[.agg #[.int .i64 n, v], vl, .int .i64 x] w (SaysN (laterR n lg l x) w) := by
  obtain ⟨a, cap, rfl, -, -⟩ := h.form
  obtain ⟨al, capl, rfl, -, hml⟩ := hl.form
  have HA := argG' (T := 44) (n := n) h
  have HI := Lib.hid h
  have HL := Lib.hid hl
  unfold maxLen at hml
  clear h hl
  go_enter Try.func81, Try.ntmps81
  go_wp2_with fail
  refine (implIsOrder n _ _ lg l _ (HI.out.alloc _) (HL.out.alloc _) hlen).mono ?_
  rintro e w1 ⟨r, rfl, hr, hb⟩
  have HB := Lib.hid (hb.mono (B' := w.heap.size + 1) (by simp))
  have HR := Lib.hid hr
  clear hb hr
  obtain ⟨c0, c1, cI, cB, hz⟩ := HA.out _ HB.out
  have HCI := Lib.hid cI
  have HCB := Lib.hid cB
  clear cI cB
  cases r with
  | false =>
    have HN := Lib.hid (show laterR n lg l x = 0 by unfold laterR; rw [if_neg (fun h => absurd (HR.out.2 h.1) (by decide))])
    go_wp2
    go_ret
    exact ⟨by rw [HN.out]; rfl, HCB.out⟩
  | true =>
    have HO := Lib.hid (HR.out.1 rfl)
    go_wp2_with fail
    by_cases hx : 0 ≤ x ∧ x < n
    · refine (hasVertex_yes n _ lg x _ HCI.out hx.1 hx.2).mono ?_
      rintro e w2 ⟨rfl, hb⟩
      have HB2 := Lib.hid (HB.out.trans (hb.mono hz))
      obtain ⟨i, V, hxV, hi, hk, hn, hf, hV, hm7, hll, hR⟩ := ord_at HO.out hx.1 hx.2
      subst hxV
      have HRR := Lib.hid hR
      have HF := Lib.hid hf
      have HN := Lib.hid hn
      have HLL := Lib.hid hll
      clear hb hx c0 c1 hz HCI HCB hR hf hn hk hll
      obtain ⟨c0, c1, cI, cB, hz⟩ := HA.out _ HB2.out
      have HCB := Lib.hid cB
      obtain ⟨b, off, cap', hv, _, hmx, hbk, hcell⟩ := cI.pos (by omega)
      simp only [Value.slice.injEq] at hv
      obtain ⟨rfl, -, rfl⟩ := hv
      have d1 := hcell V hV
      have hrow := (HO.out.graph.row_lt V hV).2
      obtain ⟨X, hX⟩ : ∃ X, X = rowN lg V := ⟨_, rfl⟩
      rw [hrow, ← hX] at d1
      have HX := Lib.hid hX
      have hX7 : X < 128 := by
        have := (HO.out.graph.row_lt V hV).1
        have := two_le _ hm7
        omega
      unfold maxLen at hmx
      clear hcell hX hrow cI cB
      have HL2 := Lib.hid (HL.out.on HCB.out)
      go_wp2_with fail
      refine (index_at _ l V i _ HL2.out hi HN.out HF.out).mono ?_
      rintro e w3 ⟨rfl, rfl⟩
      obtain ⟨b2, off2, capl', hv, hc2, hmx2, hbk2, hcell2⟩ := HL2.out.pos (by omega)
      simp only [Value.slice.injEq] at hv
      obtain ⟨rfl, -, rfl⟩ := hv
      have HC2 := Lib.hid hcell2
      have hi1 : i ≤ capl := by omega
      clear hcell2
      go_wp2
      go_loop [7, 31] (fun s c => ∃ j A : Nat, j ≤ i ∧ A < 128 ∧ c = .int .i64 j ∧ s = .int .i64 A ∧ Hid (A = lateN lg l V j)) (fun _ c => i - (intOf c).toNat)
      case atStart => exact ⟨0, X, by omega, hX7, rfl, rfl, by rw [HX.out]; rfl⟩
      case round =>
        obtain ⟨j, A, hj, hA, rfl, rfl, HAA⟩ := hrel
        by_cases hlt : j < i
        · have hkj := HO.out.1.at (show j < l.length by omega)
          have e1 := HC2.out j (by omega)
          rw [hkj.1] at e1
          obtain ⟨k, hk⟩ : ∃ k, k = kl l j := ⟨_, rfl⟩
          rw [← hk] at e1 hkj
          have hk7 := hkj.2.2
          obtain ⟨K, eK, hK1, hK2⟩ : ∃ K, (2 : Int) ^ k = K ∧ 1 ≤ K ∧ K ≤ 128 := ⟨_, rfl, (shl_one' k (by omega)).2.2.2.2, (shl_one' k (by omega)).2.2.2.1⟩
          obtain ⟨s1, s2⟩ := out_step A k hA hk7
          rw [eK] at s2
          have HS := Lib.hid s2
          have HT := Lib.hid (show (if A.testBit k then A - 2 ^ k else A) = lateN lg l V (j + 1) by unfold lateN; rw [kpre_succ, outN_snoc, ← hk]; rw [HAA.out]; rfl)
          have HEK := Lib.hid eK
          clear s2 hk hkj
          go_wp2
          clear eK
          go_round
          case rel => exact ⟨j + 1, _, by omega, s1, by go_num, congrArg (Value.int .i64) HS.out, HT.out⟩
          case measure => simp [intOf]; omega
        · obtain rfl : j = i := by omega
          go_wp2
          go_ret
          exact ⟨by rw [HRR.out, ← HAA.out]; rfl, HCB.out⟩
    · refine (hasVertex_no n _ lg x _ HCI.out hx).mono ?_
      rintro e w2 ⟨rfl, hb⟩
      have HCB2 := Lib.hid (HCB.out.trans (hb.mono HCB.out.size))
      have HN := Lib.hid (show laterR n lg l x = 0 by unfold laterR; rw [if_neg (fun h => hx h.2)])
      clear hb hx
      go_wp2
      go_ret
      exact ⟨by rw [HN.out]; rfl, HCB2.out⟩

set_option maxHeartbeats 2000000 in
set_option maxRecDepth 100000 in
theorem specLater (n : Int) (v vl : Value) (lg l : List Int) (x : Int) (w : World) (h : Ints w v lg) (hl : Ints w vl l) (hlen : l.length ≤ 1048576) :
    Calls Try.prog 84 #[.agg #[.int .i64 n, v], vl, .int .i64 x] w (SaysN (laterR n lg l x) w) := by
  obtain ⟨a, cap, rfl, -, -⟩ := h.form
  obtain ⟨al, capl, rfl, -, hml⟩ := hl.form
  have HA := argG' (T := 44) (n := n) h
  have HI := Lib.hid h
  have HL := Lib.hid hl
  unfold maxLen at hml
  clear h hl
  go_enter Try.func84, Try.ntmps84
  go_wp2_with fail
  refine (specIsOrder n _ _ lg l _ (HI.out.alloc _) (HL.out.alloc _) hlen).mono ?_
  rintro e w1 ⟨r, rfl, hr, hb⟩
  have HB := Lib.hid (hb.mono (B' := w.heap.size + 1) (by simp))
  have HR := Lib.hid hr
  clear hb hr
  obtain ⟨c0, c1, cI, cB, hz⟩ := HA.out _ HB.out
  have HCB := Lib.hid cB
  cases r with
  | false =>
    have HN := Lib.hid (show laterR n lg l x = 0 by unfold laterR; rw [if_neg (fun h => absurd (HR.out.2 h.1) (by decide))])
    clear cI cB
    go_wp2
    go_ret
    exact ⟨by rw [HN.out]; rfl, HCB.out⟩
  | true =>
    have HO := Lib.hid (HR.out.1 (by first | rfl | trivial))
    by_cases h0 : x < 0
    · have d0 : decide (x < 0) = true := by simp [h0]
      have HN := Lib.hid (show laterR n lg l x = 0 by unfold laterR; rw [if_neg (fun h => by omega)])
      clear cI cB
      go_wp2
      go_ret
      exact ⟨by rw [HN.out]; rfl, HCB.out⟩
    · have d0 : decide (x < 0) = false := by simp; omega
      by_cases h1 : n ≤ x
      · have d1 : decide (n ≤ x) = true := by simp [h1]
        have HN := Lib.hid (show laterR n lg l x = 0 by unfold laterR; rw [if_neg (fun h => by omega)])
        clear cI cB
        go_wp2
        go_ret
        exact ⟨by rw [HN.out]; rfl, HCB.out⟩
      · have d1 : decide (n ≤ x) = false := by simp; omega
        obtain ⟨i, V, hxV, hi, hk, hn, hf, hV, hm7, hll, hR⟩ := ord_at HO.out (show 0 ≤ x by omega) (show x < n by omega)
        subst hxV
        have HRR := Lib.hid hR
        have HF := Lib.hid hf
        have HN := Lib.hid hn
        have HLL := Lib.hid hll
        obtain ⟨b, off, cap', hv, _, hmx, hbk, hcell⟩ := cI.pos (by omega)
        simp only [Value.slice.injEq] at hv
        obtain ⟨rfl, -, rfl⟩ := hv
        have e1 := hcell V hV
        have hrow := (HO.out.graph.row_lt V hV).2
        obtain ⟨X, hX⟩ : ∃ X, X = rowN lg V := ⟨_, rfl⟩
        rw [hrow, ← hX] at e1
        have HX := Lib.hid hX
        have hX7 : X < 128 := by
          have := (HO.out.graph.row_lt V hV).1
          have := two_le _ hm7
          omega
        unfold maxLen at hmx
        have HL2 := Lib.hid (HL.out.on HCB.out)
        obtain ⟨b2, off2, capl', hv, hc2, hmx2, hbk2, hcell2⟩ := HL2.out.pos (by omega)
        simp only [Value.slice.injEq] at hv
        obtain ⟨rfl, -, rfl⟩ := hv
        have HC2 := Lib.hid hcell2
        have hnn : n.toNat = lg.length := by have := HO.out.len; omega
        have hn1 : 1 ≤ n := HO.out.graph.1
        have hn7 : n ≤ 7 := HO.out.graph.2.1
        obtain ⟨F, hF⟩ : ∃ F, F = 2 ^ lg.length := ⟨_, rfl⟩
        obtain ⟨N, eN, hN⟩ : ∃ N, (2 : Int) ^ n.toNat = N ∧ N = (F : Int) := ⟨_, rfl, by rw [hnn, hF]; push_cast; rfl⟩
        subst hN
        have hF1 : 0 < F := by rw [hF]; exact Nat.pow_pos (by decide)
        have hF2 : F ≤ 128 := by rw [hF]; exact two_le _ hm7
        have q6 : IntKind.i64.wrap (1 * (F : Int)) = (F : Int) := IntWalk.i64_in _ (by omega) |>.trans (by omega)
        have q7 : (F : Int) - 1 = ((F - 1 : Nat) : Int) := by omega
        have HFF := Lib.hid hF
        clear cI cB hcell hX hrow hR hf hn hcell2 h0 h1 hnn hF hk hll
        go_wp2
        go_loop [7, 8] (fun s c => ∃ j A : Nat, j ≤ i ∧ A < 128 ∧ c = .int .i64 j ∧ s = .int .i64 A ∧ Hid (A = outN (F - 1) (kpre l j))) (fun _ c => i - (intOf c).toNat)
        case atStart => exact ⟨0, F - 1, by omega, by omega, rfl, by first | rfl | exact congrArg (Value.int .i64) q7, rfl⟩
        case round =>
          obtain ⟨j, A, hj, hA, rfl, rfl, HAA⟩ := hrel
          have hkj := HO.out.1.at (show j < l.length by omega)
          have e3 := HC2.out j (by omega)
          rw [hkj.1] at e3
          obtain ⟨k, hk⟩ : ∃ k, k = kl l j := ⟨_, rfl⟩
          rw [← hk] at e3 hkj
          have hjl : j < l.length := by omega
          have hk7 := hkj.2.2
          by_cases hlt : j < i
          · have hne : ¬ (k : Int) = (V : Int) := fun e => HF.out j hlt (by rw [(HO.out.1.at hjl).1, ← hk]; exact e)
            have g1 : ((k : Int) != (V : Int)) = true := by simpa using hne
            obtain ⟨K, eK, hK1, hK2⟩ : ∃ K, (2 : Int) ^ k = K ∧ 1 ≤ K ∧ K ≤ 128 := ⟨_, rfl, (shl_one' k (by omega)).2.2.2.2, (shl_one' k (by omega)).2.2.2.1⟩
            have hof := out_fresh HO.out.1 hm7 hjl
            rw [← HFF.out, ← HAA.out, ← hk, eK] at hof
            obtain ⟨A2, hA2⟩ : ∃ A2, A2 = outN (F - 1) (kpre l (j + 1)) := ⟨_, rfl⟩
            rw [← hA2] at hof
            have hA27 : A2 < 128 := by rw [hA2]; exact outN_lt _ _ (by omega) (kpre_lt HO.out.1 (by omega))
            have hs := hof.1
            have HS := Lib.hid hs
            have HT := Lib.hid hA2
            have HEK := Lib.hid eK
            have hge : K ≤ (A : Int) := by omega
            clear hof hs hA2 hk hkj hne
            go_wp2
            clear eK
            go_round
            case rel => exact ⟨j + 1, A2, by omega, hA27, by go_num, congrArg (Value.int .i64) HS.out.symm, HT.out⟩
            case measure => simp [intOf]; omega
          · obtain rfl : j = i := by omega
            have hkV : (k : Int) = (V : Int) := by rw [hk, ← (HO.out.1.at hjl).1]; exact HN.out
            have g1 : ((k : Int) != (V : Int)) = false := by simp [hkV]
            have ha := (bits_nat X A hX7 hA).1
            have HT := Lib.hid (show ((X &&& A : Nat) : Int) = laterR n lg l V by rw [HRR.out, ← late_and HO.out.1 hm7 hV (by omega), ← HX.out, HAA.out, HFF.out])
            clear hkV hk hkj
            go_wp2
            go_ret
            exact ⟨by rw [← HT.out]; rfl, HCB.out⟩

end Go.Proofs.Ytgfndgjabhabjaa
