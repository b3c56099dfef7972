/- The specification's search for an odd cycle. -/
import Derived.Test.YtbmpljclplddeabC2
import Derived.Test.YtbmpljclplddeabC1h
import Derived.Test.YtbmpljclplddeabJ6
import Derived.Test.YtbmpljclplddeabQ
import Derived.BigRegion
import Derived.Deep.RegionWith
namespace Go.Proofs.Ytbmpljclplddeab
set_option linter.unusedVariables false
set_option linter.unusedSimpArgs false
open Go.RowKit

set_option maxHeartbeats 16000000 in
set_option maxRecDepth 100000 in
theorem l20Search_is (n : Int) (v : Value) (lg : List Int) (N : Nat) (hN : N ≤ 7) (hg : IsG n lg) (B : Nat) :
    ∀ (k : Nat) (L : List Int) (u : Value) (W : World), Ints W v lg → OwnI B W u L → B ≤ W.heap.size → L.length + k = N → (∀ i, i < L.length → nth L i = (kl L i : Int) ∧ kl L i < lg.length) →
      Calls Try.prog 78 #[.agg #[.int .i64 n, v], u, .int .i64 N] W (GetsSr B W (decide (k = 0)) (srchS lg.length (fitO lg) (oddT n lg) k L)) := by
  obtain ⟨i0, hi, hz0, hz1, hz2⟩ := info_parts infoInt
  have hn7 := hg.2.1
  have hle : (lg.length : Int) ≤ n := by have := hg.2.2.1; omega
  have hge : n ≤ (lg.length : Int) := by have := hg.2.2.1; omega
  have HG := Lib.hid hg
  clear hg
  intro k
  induction k with
  | zero =>
    intro L u W hI hO hB hk hL
    clear hL
    obtain ⟨a, cap, rfl, -, -⟩ := hI.form
    obtain ⟨al, capl, rfl, -, -⟩ := hO.ints.form
    have HI := Lib.hid hI
    have HO := Lib.hid hO
    obtain ⟨R, hR⟩ : ∃ R, R = srchS lg.length (fitO lg) (oddT n lg) 0 L := ⟨_, rfl⟩
    have HR := Lib.hid (show R = if oddT n lg L then some L else none by rw [hR]; rfl)
    rw [← hR]
    have d0 : ((L.length : Int) == (N : Int)) = true := by rw [beq_iff_eq]; omega
    have d1 : (L.length == N) = true := by rw [beq_iff_eq]; omega
    clear hI hO hR hi hz0 hz1 hz2
    go_enter Try.func78, Try.ntmps78
    go_wp2_with fail
    refine (specOdd n _ _ lg L _ (HI.out.alloc _) (HO.out.ints.alloc _) (by omega)).mono ?_
    rintro e w1 ⟨r, rfl, hr, hb⟩
    have HB := Lib.hid (((Below.refl _ W).alloc (Nat.le_refl _) _).trans (hb.mono (B' := W.heap.size) (by simp)))
    have HO1 := Lib.hid ((HO.out.alloc _).on hb)
    have HT := Lib.hid (show oddT n lg L = r by
      unfold oddT
      cases r with
      | true => rw [decide_eq_true (hr.1 rfl)]
      | false => rw [decide_eq_false (fun h => absurd (hr.2 h) (by decide))])
    clear hb hr
    cases r with
    | true =>
      have HN := Lib.hid (show R = some L by rw [HR.out, HT.out]; rfl)
      go_wp2
      go_ret2
      exact ⟨_, L, by rw [HN.out]; rfl, HO1.out, .inr (by rw [HN.out]; rfl), HB.out⟩
    | false =>
      have HN := Lib.hid (show R = none by rw [HR.out, HT.out]; rfl)
      go_wp2
      go_ret2
      exact ⟨_, L, by rw [HN.out]; rfl, HO1.out, .inl ⟨rfl, HN.out⟩, HB.out⟩
  | succ k ih =>
    intro L u W hI hO hB hk hL
    obtain ⟨a, cap, rfl, -, -⟩ := hI.form
    have HNIL := Lib.hid hO.nilform
    obtain ⟨al, capl, rfl, -, -⟩ := hO.ints.form
    have HI := Lib.hid hI
    have HO := Lib.hid hO
    have HIH := Lib.hid ih
    have HBW := Lib.hid hB
    have HLL := Lib.hid hL
    have HA := argG' (T := 33) (n := n) hI
    have d0 : ((L.length : Int) == (N : Int)) = false := by rw [beq_eq_false_iff_ne]; omega
    have d1 : (L.length == N) = false := by rw [beq_eq_false_iff_ne]; omega
    obtain ⟨F, hF⟩ : ∃ F : Nat → Option (List Int), F = fun u => if fitO lg L u then srchS lg.length (fitO lg) (oddT n lg) k (L ++ [(u : Int)]) else none := ⟨_, rfl⟩
    obtain ⟨R, hR⟩ : ∃ R, R = srchS lg.length (fitO lg) (oddT n lg) (k + 1) L := ⟨_, rfl⟩
    have HR := Lib.hid (show R = firstS F lg.length by rw [hR, hF]; rfl)
    have HF := Lib.hid (fun u => show F u = if fitO lg L u then srchS lg.length (fitO lg) (oddT n lg) k (L ++ [(u : Int)]) else none by rw [hF])
    rw [← hR]
    have hL7 : L.length ≤ 6 := by omega
    have HK := Lib.hid hk
    clear hF hR ih hI hO hB hk hL
    go_enter Try.func78, Try.ntmps78
    go_wp2
    clear d0 d1
    go_loopw [8] (fun x wr => ∃ j : Nat, j ≤ lg.length ∧ x = .int .i64 j ∧ Hid (∀ t, t < j → F t = none) ∧ Below (W.heap.size + 1) (W.alloc (.cells #[.int .i64 n, .slice a lg.length cap] 33)) wr) (fun x _ => lg.length - (intOf x).toNat)
    case atStart => exact ⟨0, by omega, rfl, fun t ht => absurd ht (by omega), Below.refl _ _⟩
    case round =>
      obtain ⟨j, hj, rfl, HJ, hbel⟩ := hrel
      by_cases hlt : j < lg.length
      · have hjt : decide ((j : Int) < n) = true := decide_eq_true (by omega)
        have hj64 : j < 64 := by omega
        have HGOF : Hid (fitO lg L j = false → ∀ t, t < j + 1 → F t = none) := fun hp t ht => by
          rcases Nat.lt_or_ge t j with h | h
          · exact HJ.out t h
          · obtain rfl : t = j := by omega
            rw [HF.out, hp]; rfl
        have HBL := Lib.hid hbel
        have hzr : W.heap.size + 1 ≤ wr.heap.size := by have := hbel.size; simpa using this
        have HST : Hid (∀ X : Since wr, X.val.cell? ⟨W.heap.size, 0, none⟩ = some (.int .i64 n) ∧ X.val.cell? ⟨W.heap.size, 1, none⟩ = some (.slice a lg.length cap) ∧ Ints X.val (.slice a lg.length cap) lg ∧ Below W.heap.size W X.val) := fun X => by
          obtain ⟨c0, c1, cI, cB, -⟩ := HA.out _ (HBL.out.trans (X.prop.mono hzr))
          exact ⟨c0, c1, cI, cB⟩
        have HGI : Hid (∀ X : Since wr, Ints X.val (.slice al L.length capl) L ∧ Ints X.val (.slice a lg.length cap) lg) := fun X => ⟨(HO.out.on (HST.out X).2.2.2).ints, (HST.out X).2.2.1⟩
        have hx0 : ∀ X : Since wr, X.val.cell? ⟨W.heap.size, 0, none⟩ = some (.int .i64 n) := fun X => (HST.out X).1
        have hx1 : ∀ X : Since wr, X.val.cell? ⟨W.heap.size, 1, none⟩ = some (.slice a lg.length cap) := fun X => (HST.out X).2.1
        obtain ⟨c0, c1, -, -, -⟩ := HA.out _ hbel
        clear hbel
        go_wp2
        clear c0 c1
        try dsimp only [List.append]
        refine wp_region_since (by kernel_rfl) (by kernel_rfl) ?_
        by_cases hin : ∃ t, t < L.length ∧ nth L t = (j : Int)
        · have HC8 : Hid (∀ W', Ints W' (.slice al L.length capl) L → Calls Try.prog 123 #[.slice al L.length capl, .int .i64 j] W' fun e w' => e = .returned (.bool true) ∧ Below W'.heap.size W' w') := fun W' hW' =>
            (l8Has_is _ L j W' hW' (by omega) true ⟨fun _ => hin, fun _ => rfl⟩).mono fun e w' ⟨he, hw⟩ => ⟨he, by rw [← hw]; exact Below.refl _ _⟩
          have HIN := Lib.hid hin
          clear hin
          repeat (go_big_quiet_step (first | with_reducible exact since_call (HC8.out _ (HGI.out _).1)))
          refine wpQuiet_nil ?_
          intro X
          have HBX := Lib.hid (HBL.out.trans (X.prop.mono hzr))
          obtain ⟨wx, hwx⟩ : ∃ wx, wx = X.val := ⟨_, rfl⟩
          rw [← hwx] at HBX ⊢
          clear hwx
          have HT : Hid (∀ t, t < j + 1 → F t = none) := HGOF.out (by
            obtain ⟨t, ht, h⟩ := HIN.out
            unfold fitO
            rw [decide_eq_false (fun hh => hh t ht (by have := (HLL.out t ht).1; rw [h] at this; omega))]
            rfl)
          obtain ⟨c0, c1, -, -, -⟩ := HA.out _ HBX.out
          go_wp2
          go_roundw
          case rel => exact ⟨j + 1, by omega, by go_num, HT.out, HBX.out⟩
          case measure => simp [intOf]; omega
        · have HC8 : Hid (∀ W', Ints W' (.slice al L.length capl) L → Calls Try.prog 123 #[.slice al L.length capl, .int .i64 j] W' fun e w' => e = .returned (.bool false) ∧ Below W'.heap.size W' w') := fun W' hW' =>
            (l8Has_is _ L j W' hW' (by omega) false ⟨fun h => absurd h (by decide), fun h => absurd h hin⟩).mono fun e w' ⟨he, hw⟩ => ⟨he, by rw [← hw]; exact Below.refl _ _⟩
          have HIN := Lib.hid (show decide (∀ t, t < L.length → kl L t ≠ j) = true from decide_eq_true fun t ht he => hin ⟨t, ht, by rw [(HLL.out t ht).1, he]⟩)
          clear hin
          by_cases h00 : L.length = 0
          · have g2 : decide ((L.length : Int) > 0) = false := decide_eq_false (by omega)
            have g3 : decide ((0 : Int) < (L.length : Int)) = false := decide_eq_false (by omega)
            have g4 : decide (0 < L.length) = false := decide_eq_false (by omega)
            have H00 := Lib.hid h00
            clear h00
            repeat (go_big_quiet_step (first | with_reducible exact since_call (HC8.out _ (HGI.out _).1)))
            refine wpQuiet_nil ?_
            intro X
            have HBX := Lib.hid (HBL.out.trans (X.prop.mono hzr))
            obtain ⟨wx, hwx⟩ : ∃ wx, wx = X.val := ⟨_, rfl⟩
            rw [← hwx] at HBX ⊢
            clear hwx g2 g3 g4
            have HFIT := Lib.hid (show fitO lg L j = true from by unfold fitO; rw [HIN.out]; simp [H00.out])
            have HFU := Lib.hid (show F j = srchS lg.length (fitO lg) (oddT n lg) k (L ++ [(j : Int)]) by rw [HF.out]; rw [if_pos HFIT.out])
            have HLN : Hid (∀ i, i < (L ++ [(j : Int)]).length → nth (L ++ [(j : Int)]) i = (kl (L ++ [(j : Int)]) i : Int) ∧ kl (L ++ [(j : Int)]) i < lg.length) := fun i hi => by
              rcases Nat.lt_or_ge i L.length with h | h
              · have h2 := nth_snoc_lt L (j : Int) i h
                rw [h2]
                have := HLL.out i h
                refine ⟨?_, this.2⟩
                rw [← this.1]
                unfold nth
                rw [List.getD_eq_getElem?_getD, List.getD_eq_getElem?_getD, List.getElem?_append_left h]
              · obtain rfl : i = L.length := by simp at hi; omega
                rw [kl_snoc]
                exact ⟨by simp [nth, List.getD], hlt⟩
            obtain ⟨c0, c1, cI, cB, hz⟩ := HA.out _ HBX.out
            have hzx : W.heap.size + 1 ≤ wx.heap.size := by have := HBX.out.size; simpa using this
            have HLX : Hid (∀ X, Below wx.heap.size wx X → Ints X (.slice al L.length capl) L) := fun X hX => by
              have hb : Below W.heap.size W X := (HA.out _ (HBX.out.trans (hX.mono hzx))).2.2.2.1
              exact (HO.out.on hb).ints
            have HE1 := Lib.hid ((OwnI.lit0 wx (W.heap.size + 1) hzx).on (Below.refl _ _).drew)
            have HE2 := Lib.hid (((OwnI.lit0 wx (W.heap.size + 1) hzx).alloc (.cells #[.int .i64 (j : Int)] 3)).on (Below.refl _ _).drew)
            have HE3 : Hid (OwnI (W.heap.size + 1) ((wx.alloc (.cells #[.int .i64 (j : Int)] 3)).alloc (.cells #[] 3)).drew (.slice (some ⟨wx.heap.size + 1, 0, none⟩) 0 0) []) := by
              have := (OwnI.lit0 (wx.alloc (.cells #[.int .i64 (j : Int)] 3)) (W.heap.size + 1) (by simp; omega)).on (Below.refl _ _).drew
              show OwnI _ _ _ _
              simpa using this
            have HK1 := Lib.hid (((Below.refl wx.heap.size wx).alloc (Nat.le_refl _) (.cells #[] 3)).drew)
            have HK2 := Lib.hid ((((Below.refl wx.heap.size wx).alloc (Nat.le_refl _) (.cells #[] 3)).alloc (by simp) (.cells #[.int .i64 (j : Int)] 3)).drew)
            have HK3 := Lib.hid ((((Below.refl wx.heap.size wx).alloc (Nat.le_refl _) (.cells #[.int .i64 (j : Int)] 3)).alloc (by simp) (.cells #[] 3)).drew)
            have HU2 : Hid (((wx.alloc (.cells #[] 3)).alloc (.cells #[.int .i64 (j : Int)] 3)).drew.heap[wx.heap.size + 1]? = some (.cells #[.int .i64 (j : Int)] 3 (0, 0))) := by
              have := heap_alloc_new (wx.alloc (.cells #[] 3)) (.cells #[.int .i64 (j : Int)] 3)
              rw [World.size_alloc] at this
              exact this
            have HU3 : Hid (((wx.alloc (.cells #[.int .i64 (j : Int)] 3)).alloc (.cells #[] 3)).drew.heap[wx.heap.size]? = some (.cells #[.int .i64 (j : Int)] 3 (0, 0))) := by
              show ((wx.alloc (.cells #[.int .i64 (j : Int)] 3)).heap.push _)[wx.heap.size]? = _
              rw [Array.getElem?_push, if_neg (by rw [World.size_alloc]; omega)]
              exact heap_alloc_new wx _
            clear cI cB
            go_wp2
            go_region_law (first | (refine step_append_ints rfl (.tmp 47) (.tmp 48) 22 rfl (W.heap.size + 1) i0 Try.underlying22 hi hz0 hz1 hz2 _ [] rfl (by first | exact HE1.out | exact HE2.out | exact HE3.out) _ L rfl (HLX.out _ (by first | exact HK1.out | exact HK2.out | exact HK3.out)) HNIL.out (by simp; omega) (by simp; omega) ?_; intro v1 w1 ho1 hg1 hne1; have HB1 := Lib.hid (Below.grown (HBX.out.trans (Below.mono (by first | exact HK1.out | exact HK2.out | exact HK3.out) hzx)) hg1 (by simp; omega) (fun q hq => by first | exact (HE1.out.lt q hq).1 | exact (HE2.out.lt q hq).1 | exact (HE3.out.lt q hq).1)); have HO1 := Lib.hid (show OwnI (W.heap.size + 1) w1 v1 L from by simpa using ho1); have hz1' : W.heap.size + 1 ≤ w1.heap.size := (by have := HB1.out.size; simp at this; omega); obtain ⟨d0, d1, -, -, hzw1⟩ := HA.out _ HB1.out; clear ho1 hne1) | (refine step_append_int1 rfl (.tmp 49) (.tmp 51) 22 rfl (W.heap.size + 1) i0 Try.underlying22 hi hz0 hz1 hz2 v1 L rfl (by first | exact HO1.out.alloc _ | exact HO1.out) _ (j : Int) (by omega) (by omega) rfl (by first | exact heap_alloc_new w1 _ | (show (w1.alloc _).heap[w1.heap.size]? = _; exact heap_alloc_new w1 _) | exact (hg1.block (wx.heap.size + 1) (by simp) (by show some (wx.heap.size + 1) ≠ some wx.heap.size; simp)).trans HU2.out | exact (hg1.block wx.heap.size (by simp; omega) (by show some wx.heap.size ≠ some (wx.heap.size + 1); simp)).trans HU3.out) (by omega) (by first | omega | (simp; omega)) ?_; intro g2 cap2 w2 ho2 hg2; have HB2 := Lib.hid (show Below (W.heap.size + 1) (W.alloc (.cells #[.int .i64 n, .slice a lg.length cap] 33)) w2 from by first | exact (HB1.out.alloc hz1' _).grown hg2 (by simp; omega) (fun q hq => (HO1.out.lt _ hq).1) | exact HB1.out.grown hg2 hz1' (fun q hq => (HO1.out.lt _ hq).1)); have hln : (L ++ [(j : Int)]).length = L.length + 1 := (by simp); rw [hln] at ho2; have HO2 := Lib.hid ho2; clear hln; obtain ⟨d2, d3, -, -, -⟩ := HA.out _ HB2.out; clear ho2 hg2) | (go_simp; go_at_call 78; refine (HIH.out (L ++ [(j : Int)]) _ _ (HA.out _ HB2.out).2.2.1 (HO2.out.mono (by have := HBW.out; omega)) (by have := HBW.out; have := (HA.out _ HB2.out).2.2.2.1.size; omega) (by have := HK.out; simp; omega) HLN.out).mono ?_; rintro e w5 ⟨v5, l5, rfl, ho5, hor, hb5⟩))
            all_goals
              clear c0 c1 d0 d1 d2 d3
              have HB5 := Lib.hid (HB2.out.trans (hb5.mono (by have := HB2.out.size; simpa using this)))
              have HO6 := Lib.hid ho5
              have HOR := Lib.hid hor
              rw [← HFU.out] at HOR ⊢
              clear ho5 hor hb5
              obtain ⟨c0, c1, cI, cB, hz⟩ := HA.out _ HB5.out
              have HCB := Lib.hid cB
              clear cI cB hz
              cases hFu : F j with
              | some y =>
                have b0 : outS (some y) = true := rfl
                have HN := Lib.hid (show R = some y by rw [HR.out]; exact firstS_hit hlt HJ.out hFu)
                have HL5 := Lib.hid (show l5 = y by
                  rcases HOR.out with ⟨-, h⟩ | h
                  · rw [hFu] at h; cases h
                  · rw [h, hFu]; rfl)
                clear hFu HOR c0 c1
                go_wp2
                go_ret2
                exact ⟨_, l5, by rw [HN.out]; rfl, HO6.out, .inr (by rw [HN.out, HL5.out]; rfl), HCB.out⟩
              | none =>
                have b0 : outS (none : Option (List Int)) = false := rfl
                have HT : Hid (∀ t, t < j + 1 → F t = none) := fun t ht => by
                  rcases Nat.lt_or_ge t j with h | h
                  · exact HJ.out t h
                  · obtain rfl : t = j := by omega
                    exact hFu
                clear hFu HOR
                go_wp2
                go_roundw
                case rel => exact ⟨j + 1, by omega, by go_num, HT.out, HB5.out⟩
                case measure => simp [intOf]; omega
          · have g2 : decide ((L.length : Int) > 0) = true := decide_eq_true (by omega)
            have g3 : decide ((0 : Int) < (L.length : Int)) = true := decide_eq_true (by omega)
            have g4 : decide (0 < L.length) = true := decide_eq_true (by omega)
            obtain ⟨p, hp⟩ : ∃ p, L.length = p + 1 := ⟨L.length - 1, by omega⟩
            have hL0 : p < L.length := by omega
            have hL1 : p + 1 ≤ L.length := by omega
            have hL2 : L.length ≤ p + 1 := by omega
            have hw : IntKind.i64.wrap ((L.length : Int) - 1) = (p : Int) := (IntWalk.i64_in _ (by omega)).trans (by omega)
            have HPL := Lib.hid hp
            obtain ⟨b, off, cap', hv, _, hmx, hbk, hcell⟩ := HO.out.ints.pos (by omega)
            simp only [Value.slice.injEq] at hv
            obtain ⟨rfl, -, rfl⟩ := hv
            unfold maxLen at hmx
            obtain ⟨x0, y0⟩ := HLL.out p hL0
            have e0 := hcell p hL0
            rw [x0] at e0
            obtain ⟨k0, hk0⟩ : ∃ k, k = kl L p := ⟨_, rfl⟩
            rw [← hk0] at e0 y0
            have HK0 := Lib.hid hk0
            have HY0 := Lib.hid y0
            have hy0 : ∀ X : Since wr, X.val.cell? ⟨b, off + p, none⟩ = some (.int .i64 k0) := fun X => ((HST.out X).2.2.2.cell (p := ⟨b, off + p, none⟩) hbk).trans e0
            clear x0 y0 hk0 e0 hcell hp
            cases hbe : edB lg k0 j with
            | true =>
              have HE0 : Hid (∀ W', Ints W' (.slice a lg.length cap) lg → Calls Try.prog 82 #[.agg #[.int .i64 n, .slice a lg.length cap], .int .i64 k0, .int .i64 j] W' fun e w' => e = .returned (.bool true) ∧ Below W'.heap.size W' w') := fun W' hI' => by rw [← hbe]; exact l2Edge_is n _ lg k0 j W' hI' HY0.out hj64
              have HN0 := Lib.hid hbe
              clear hbe
              repeat (go_big_quiet_step (first | with_reducible exact since_call (HC8.out _ (HGI.out _).1) | with_reducible exact since_call (HE0.out _ (HGI.out _).2)))
              refine wpQuiet_nil ?_
              intro X
              have HBX := Lib.hid (HBL.out.trans (X.prop.mono hzr))
              obtain ⟨wx, hwx⟩ : ∃ wx, wx = X.val := ⟨_, rfl⟩
              rw [← hwx] at HBX ⊢
              clear hwx g2 g3 g4 hy0 hw
              have HFIT := Lib.hid (show fitO lg L j = true from by unfold fitO; rw [HIN.out, show L.length - 1 = p by have := HPL.out; omega, ← HK0.out, HN0.out]; simp)
              have HFU := Lib.hid (show F j = srchS lg.length (fitO lg) (oddT n lg) k (L ++ [(j : Int)]) by rw [HF.out]; rw [if_pos HFIT.out])
              have HLN : Hid (∀ i, i < (L ++ [(j : Int)]).length → nth (L ++ [(j : Int)]) i = (kl (L ++ [(j : Int)]) i : Int) ∧ kl (L ++ [(j : Int)]) i < lg.length) := fun i hi => by
                rcases Nat.lt_or_ge i L.length with h | h
                · have h2 := nth_snoc_lt L (j : Int) i h
                  rw [h2]
                  have := HLL.out i h
                  refine ⟨?_, this.2⟩
                  rw [← this.1]
                  unfold nth
                  rw [List.getD_eq_getElem?_getD, List.getD_eq_getElem?_getD, List.getElem?_append_left h]
                · obtain rfl : i = L.length := by simp at hi; omega
                  rw [kl_snoc]
                  exact ⟨by simp [nth, List.getD], hlt⟩
              obtain ⟨c0, c1, cI, cB, hz⟩ := HA.out _ HBX.out
              have hzx : W.heap.size + 1 ≤ wx.heap.size := by have := HBX.out.size; simpa using this
              have HLX : Hid (∀ X, Below wx.heap.size wx X → Ints X (.slice (some ⟨b, off, none⟩) L.length capl) L) := fun X hX => by
                have hb : Below W.heap.size W X := (HA.out _ (HBX.out.trans (hX.mono hzx))).2.2.2.1
                exact (HO.out.on hb).ints
              have HE1 := Lib.hid ((OwnI.lit0 wx (W.heap.size + 1) hzx).on (Below.refl _ _).drew)
              have HE2 := Lib.hid (((OwnI.lit0 wx (W.heap.size + 1) hzx).alloc (.cells #[.int .i64 (j : Int)] 3)).on (Below.refl _ _).drew)
              have HE3 : Hid (OwnI (W.heap.size + 1) ((wx.alloc (.cells #[.int .i64 (j : Int)] 3)).alloc (.cells #[] 3)).drew (.slice (some ⟨wx.heap.size + 1, 0, none⟩) 0 0) []) := by
                have := (OwnI.lit0 (wx.alloc (.cells #[.int .i64 (j : Int)] 3)) (W.heap.size + 1) (by simp; omega)).on (Below.refl _ _).drew
                show OwnI _ _ _ _
                simpa using this
              have HK1 := Lib.hid (((Below.refl wx.heap.size wx).alloc (Nat.le_refl _) (.cells #[] 3)).drew)
              have HK2 := Lib.hid ((((Below.refl wx.heap.size wx).alloc (Nat.le_refl _) (.cells #[] 3)).alloc (by simp) (.cells #[.int .i64 (j : Int)] 3)).drew)
              have HK3 := Lib.hid ((((Below.refl wx.heap.size wx).alloc (Nat.le_refl _) (.cells #[.int .i64 (j : Int)] 3)).alloc (by simp) (.cells #[] 3)).drew)
              have HU2 : Hid (((wx.alloc (.cells #[] 3)).alloc (.cells #[.int .i64 (j : Int)] 3)).drew.heap[wx.heap.size + 1]? = some (.cells #[.int .i64 (j : Int)] 3 (0, 0))) := by
                have := heap_alloc_new (wx.alloc (.cells #[] 3)) (.cells #[.int .i64 (j : Int)] 3)
                rw [World.size_alloc] at this
                exact this
              have HU3 : Hid (((wx.alloc (.cells #[.int .i64 (j : Int)] 3)).alloc (.cells #[] 3)).drew.heap[wx.heap.size]? = some (.cells #[.int .i64 (j : Int)] 3 (0, 0))) := by
                show ((wx.alloc (.cells #[.int .i64 (j : Int)] 3)).heap.push _)[wx.heap.size]? = _
                rw [Array.getElem?_push, if_neg (by rw [World.size_alloc]; omega)]
                exact heap_alloc_new wx _
              clear cI cB
              go_wp2
              go_region_law (first | (refine step_append_ints rfl (.tmp 47) (.tmp 48) 22 rfl (W.heap.size + 1) i0 Try.underlying22 hi hz0 hz1 hz2 _ [] rfl (by first | exact HE1.out | exact HE2.out | exact HE3.out) _ L rfl (HLX.out _ (by first | exact HK1.out | exact HK2.out | exact HK3.out)) HNIL.out (by simp; omega) (by simp; omega) ?_; intro v1 w1 ho1 hg1 hne1; have HB1 := Lib.hid (Below.grown (HBX.out.trans (Below.mono (by first | exact HK1.out | exact HK2.out | exact HK3.out) hzx)) hg1 (by simp; omega) (fun q hq => by first | exact (HE1.out.lt q hq).1 | exact (HE2.out.lt q hq).1 | exact (HE3.out.lt q hq).1)); have HO1 := Lib.hid (show OwnI (W.heap.size + 1) w1 v1 L from by simpa using ho1); have hz1' : W.heap.size + 1 ≤ w1.heap.size := (by have := HB1.out.size; simp at this; omega); obtain ⟨d0, d1, -, -, hzw1⟩ := HA.out _ HB1.out; clear ho1 hne1) | (refine step_append_int1 rfl (.tmp 49) (.tmp 51) 22 rfl (W.heap.size + 1) i0 Try.underlying22 hi hz0 hz1 hz2 v1 L rfl (by first | exact HO1.out.alloc _ | exact HO1.out) _ (j : Int) (by omega) (by omega) rfl (by first | exact heap_alloc_new w1 _ | (show (w1.alloc _).heap[w1.heap.size]? = _; exact heap_alloc_new w1 _) | exact (hg1.block (wx.heap.size + 1) (by simp) (by show some (wx.heap.size + 1) ≠ some wx.heap.size; simp)).trans HU2.out | exact (hg1.block wx.heap.size (by simp; omega) (by show some wx.heap.size ≠ some (wx.heap.size + 1); simp)).trans HU3.out) (by omega) (by first | omega | (simp; omega)) ?_; intro g2 cap2 w2 ho2 hg2; have HB2 := Lib.hid (show Below (W.heap.size + 1) (W.alloc (.cells #[.int .i64 n, .slice a lg.length cap] 33)) w2 from by first | exact (HB1.out.alloc hz1' _).grown hg2 (by simp; omega) (fun q hq => (HO1.out.lt _ hq).1) | exact HB1.out.grown hg2 hz1' (fun q hq => (HO1.out.lt _ hq).1)); have hln : (L ++ [(j : Int)]).length = L.length + 1 := (by simp); rw [hln] at ho2; have HO2 := Lib.hid ho2; clear hln; obtain ⟨d2, d3, -, -, -⟩ := HA.out _ HB2.out; clear ho2 hg2) | (go_simp; go_at_call 78; refine (HIH.out (L ++ [(j : Int)]) _ _ (HA.out _ HB2.out).2.2.1 (HO2.out.mono (by have := HBW.out; omega)) (by have := HBW.out; have := (HA.out _ HB2.out).2.2.2.1.size; omega) (by have := HK.out; simp; omega) HLN.out).mono ?_; rintro e w5 ⟨v5, l5, rfl, ho5, hor, hb5⟩))
              all_goals
                clear c0 c1 d0 d1 d2 d3
                have HB5 := Lib.hid (HB2.out.trans (hb5.mono (by have := HB2.out.size; simpa using this)))
                have HO6 := Lib.hid ho5
                have HOR := Lib.hid hor
                rw [← HFU.out] at HOR ⊢
                clear ho5 hor hb5
                obtain ⟨c0, c1, cI, cB, hz⟩ := HA.out _ HB5.out
                have HCB := Lib.hid cB
                clear cI cB hz
                cases hFu : F j with
                | some y =>
                  have b0 : outS (some y) = true := rfl
                  have HN := Lib.hid (show R = some y by rw [HR.out]; exact firstS_hit hlt HJ.out hFu)
                  have HL5 := Lib.hid (show l5 = y by
                    rcases HOR.out with ⟨-, h⟩ | h
                    · rw [hFu] at h; cases h
                    · rw [h, hFu]; rfl)
                  clear hFu HOR c0 c1
                  go_wp2
                  go_ret2
                  exact ⟨_, l5, by rw [HN.out]; rfl, HO6.out, .inr (by rw [HN.out, HL5.out]; rfl), HCB.out⟩
                | none =>
                  have b0 : outS (none : Option (List Int)) = false := rfl
                  have HT : Hid (∀ t, t < j + 1 → F t = none) := fun t ht => by
                    rcases Nat.lt_or_ge t j with h | h
                    · exact HJ.out t h
                    · obtain rfl : t = j := by omega
                      exact hFu
                  clear hFu HOR
                  go_wp2
                  go_roundw
                  case rel => exact ⟨j + 1, by omega, by go_num, HT.out, HB5.out⟩
                  case measure => simp [intOf]; omega
            | false =>
              have HE0 : Hid (∀ W', Ints W' (.slice a lg.length cap) lg → Calls Try.prog 82 #[.agg #[.int .i64 n, .slice a lg.length cap], .int .i64 k0, .int .i64 j] W' fun e w' => e = .returned (.bool false) ∧ Below W'.heap.size W' w') := fun W' hI' => by rw [← hbe]; exact l2Edge_is n _ lg k0 j W' hI' HY0.out hj64
              have HN0 := Lib.hid hbe
              clear hbe
              repeat (go_big_quiet_step (first | with_reducible exact since_call (HC8.out _ (HGI.out _).1) | with_reducible exact since_call (HE0.out _ (HGI.out _).2)))
              refine wpQuiet_nil ?_
              intro X
              have HBX := Lib.hid (HBL.out.trans (X.prop.mono hzr))
              obtain ⟨wx, hwx⟩ : ∃ wx, wx = X.val := ⟨_, rfl⟩
              rw [← hwx] at HBX ⊢
              clear hwx g2 g3 g4 hy0 hw
              have HT : Hid (∀ t, t < j + 1 → F t = none) := HGOF.out (by unfold fitO; rw [HIN.out, show L.length - 1 = p by have := HPL.out; omega, ← HK0.out, HN0.out]; simp [h00])
              obtain ⟨c0, c1, -, -, -⟩ := HA.out _ HBX.out
              go_wp2
              go_roundw
              case rel => exact ⟨j + 1, by omega, by go_num, HT.out, HBX.out⟩
              case measure => simp [intOf]; omega
      · obtain rfl : j = lg.length := by omega
        have hjf : decide ((lg.length : Int) < n) = false := decide_eq_false (by omega)
        have HN := Lib.hid (show R = none by rw [HR.out]; exact firstS_none.2 HJ.out)
        obtain ⟨c0, c1, cI, cB, hz⟩ := HA.out _ hbel
        have HCB := Lib.hid cB
        have HBZ := Lib.hid (show B ≤ wr.heap.size by have := HBW.out; have := cB.size; omega)
        have HE := Lib.hid (OwnI.lit0 wr B HBZ.out)
        have hzW : W.heap.size ≤ wr.heap.size := cB.size
        clear cI cB hz hbel
        go_wp2
        go_ret2
        exact ⟨_, [], by rw [HN.out]; rfl, HE.out, .inr (by rw [HN.out]; rfl), HCB.out.alloc hzW _⟩

end Go.Proofs.Ytbmpljclplddeab
