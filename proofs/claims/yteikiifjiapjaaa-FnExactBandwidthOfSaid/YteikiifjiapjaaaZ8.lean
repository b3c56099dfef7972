/- The specification's search for an order within a band. -/
import Derived.Test.YteikiifjiapjaaaZ2
import Derived.Test.YteikiifjiapjaaaH8
import Derived.Test.YteikiifjiapjaaaL1
import Derived.Test.YteikiifjiapjaaaQ
import Derived.Test.YteikiifjiapjaaaG8
import Derived.BigRegion
import Derived.Deep.RegionWith
namespace Go.Proofs.Yteikiifjiapjaaa
set_option linter.unusedVariables false
set_option linter.unusedSimpArgs false
open Go.RowKit

/-- What the loop has found out so far. -/
def bandQ (lg L : List Int) (K u q : Nat) : Bool := !decide ((u : Int) ∈ L) && decide (∀ i, i < q → edB lg u (kl L i) = true → L.length - i ≤ K)

theorem bandQ_all (lg L : List Int) (K u : Nat) : bandQ lg L K u L.length = fitB lg K L u := rfl

theorem bandQ_false {lg L : List Int} {K u q : Nat} (hq : q ≤ L.length) (h : bandQ lg L K u q = false) : fitB lg K L u = false := by
  unfold bandQ at h
  unfold fitB
  rw [Bool.and_eq_false_iff] at h ⊢
  rcases h with h | h
  · exact .inl h
  · exact .inr (decide_eq_false fun hh => (of_decide_eq_false h) fun i hi => hh i (by omega))

theorem bandQ_yes {lg L : List Int} {K u q : Nat} (h : bandQ lg L K u q = true) (h2 : edB lg u (kl L q) = true → L.length - q ≤ K) : bandQ lg L K u (q + 1) = true := by
  unfold bandQ at h ⊢
  rw [Bool.and_eq_true] at h ⊢
  refine ⟨h.1, decide_eq_true fun i hi => ?_⟩
  rcases Nat.lt_or_ge i q with h3 | h3
  · exact (of_decide_eq_true h.2) i h3
  · obtain rfl : i = q := by omega
    exact h2

theorem bandQ_no {lg L : List Int} {K u q : Nat} (h1 : edB lg u (kl L q) = true) (h2 : ¬ L.length - q ≤ K) : bandQ lg L K u (q + 1) = false := by
  unfold bandQ
  rw [Bool.and_eq_false_iff]
  exact .inr (decide_eq_false fun hh => h2 (hh q (by omega) h1))

set_option maxHeartbeats 8000000 in
set_option maxRecDepth 100000 in
theorem l27Band_is (n : Int) (v : Value) (lg : List Int) (hg : IsG n lg) (B K : Nat) (hK7 : K ≤ 7) :
    ∀ (k : Nat) (L : List Int) (u : Value) (W : World), Ints W v lg → OwnI B W u L → B ≤ W.heap.size → Verts lg L → L.length + k = lg.length →
      Calls Try.prog 73 #[.agg #[.int .i64 n, v], .int .i64 K, u] W (GetsLB B W (srchS lg.length (fitB lg K) (fun _ => true) k L)) := by
  obtain ⟨i0, hi, hz0, hz1, hz2⟩ := info_parts infoInt
  have hn7 := hg.2.1
  have hle : (lg.length : Int) ≤ n := by have := hg.2.2.1; omega
  have hge : n ≤ (lg.length : Int) := by have := hg.2.2.1; omega
  have HSY : Hid (∀ i j, i < lg.length → j < lg.length → edB lg i j = edB lg j i) := fun i j hi hj => edB_sym hg hi hj
  clear hg
  intro k
  induction k with
  | zero =>
    intro L u W hI hO hB hV hk
    obtain ⟨a, cap, rfl, -, -⟩ := hI.form
    obtain ⟨al, capl, rfl, -, -⟩ := hO.ints.form
    have HO := Lib.hid hO
    obtain ⟨R, hR⟩ : ∃ R, R = srchS lg.length (fitB lg K) (fun _ => true) 0 L := ⟨_, rfl⟩
    have HR := Lib.hid (show R = some L by rw [hR]; rfl)
    rw [← hR]
    have d0 : ((L.length : Int) == n) = true := by rw [beq_iff_eq]; omega
    clear hI hO hR hi hz0 hz1 hz2 hV
    go_enter Try.func73, Try.ntmps73
    go_wp2
    go_ret2
    exact ⟨_, by rw [HR.out]; rfl, by rw [HR.out]; exact HO.out.alloc _, (Below.refl _ _).alloc (Nat.le_refl _) _⟩
  | succ k ih =>
    intro L u W hI hO hB hV hk
    obtain ⟨a, cap, rfl, -, -⟩ := hI.form
    have HNIL := Lib.hid hO.nilform
    obtain ⟨al, capl, rfl, -, hml⟩ := hO.ints.form
    have HI := Lib.hid hI
    have HO := Lib.hid hO
    have HIH := Lib.hid ih
    have HBW := Lib.hid hB
    have HV := Lib.hid hV
    have HA := argG' (T := 28) (n := n) hI
    have d0 : ((L.length : Int) == n) = false := by rw [beq_eq_false_iff_ne]; omega
    obtain ⟨F, hF⟩ : ∃ F : Nat → Option (List Int), F = fun (u : Nat) => if fitB lg K L u = true then srchS lg.length (fitB lg K) (fun _ => true) k (L ++ [(u : Int)]) else none := ⟨_, rfl⟩
    obtain ⟨R, hR⟩ : ∃ R, R = srchS lg.length (fitB lg K) (fun _ => true) (k + 1) L := ⟨_, rfl⟩
    have HR := Lib.hid (show R = firstS F lg.length by rw [hR, hF]; rfl)
    have HF := Lib.hid (fun (u : Nat) => show F u = if fitB lg K L u = true then srchS lg.length (fitB lg K) (fun _ => true) k (L ++ [(u : Int)]) else none by rw [hF])
    rw [← hR]
    have hL7 : L.length ≤ 6 := by omega
    have HK := Lib.hid hk
    unfold maxLen at hml
    clear hF hR ih hI hO hB hk hV
    go_enter Try.func73, Try.ntmps73
    go_wp2
    clear d0
    go_loopw [8] (fun x wr => ∃ j : Nat, j ≤ lg.length ∧ x = .int .i64 j ∧ Hid (∀ t, t < j → F t = none) ∧ Below (W.heap.size + 1) (W.alloc (.cells #[.int .i64 n, .slice a lg.length cap] 28)) wr) (fun x _ => lg.length - (intOf x).toNat)
    case atStart => exact ⟨0, by omega, rfl, fun t ht => absurd ht (by omega), Below.refl _ _⟩
    case round =>
      obtain ⟨j, hj, rfl, HJ, hbel⟩ := hrel
      have HBL := Lib.hid hbel
      by_cases hlt : j < lg.length
      · have hjt : decide ((j : Int) < n) = true := decide_eq_true (by omega)
        have HGOF : Hid (fitB lg K L j = false → ∀ t, t < j + 1 → F t = none) := fun hp t ht => by
          rcases Nat.lt_or_ge t j with h | h
          · exact HJ.out t h
          · obtain rfl : t = j := by omega
            rw [HF.out, hp]; rfl
        have hzr : W.heap.size + 1 ≤ wr.heap.size := by have := hbel.size; simpa using this
        have HLX0 : Hid (∀ X, Below (W.heap.size + 1) (W.alloc (.cells #[.int .i64 n, .slice a lg.length cap] 28)) X → Ints X (.slice al L.length capl) L) := fun X hX => (HO.out.on (HA.out _ hX).2.2.2.1).ints
        obtain ⟨c0, c1, -, -, -⟩ := HA.out _ hbel
        clear hbel
        go_wp2_with fail
        refine (l8Has_dec _ L (j : Int) _ (HLX0.out _ HBL.out) (by omega)).mono ?_
        rintro e w3 ⟨rfl, hb3⟩
        have HB3 := Lib.hid (HBL.out.trans (hb3.mono hzr))
        clear hb3 c0 c1
        obtain ⟨c0, c1, -, -, -⟩ := HA.out _ HB3.out
        obtain ⟨b9, hb9⟩ : ∃ b, b = decide ((j : Int) ∈ L) := ⟨_, rfl⟩
        rw [← hb9]
        have HB0 := Lib.hid (show bandQ lg L K j 0 = !b9 by
          unfold bandQ
          rw [← hb9]
          simp)
        clear hb9
        go_wp2
        clear c0 c1
        go_loopw [9, 10] (fun f x wr => ∃ (q : Nat) (b : Bool), q ≤ L.length ∧ x = .int .i64 q ∧ f = .bool b ∧ Hid (bandQ lg L K j q = b) ∧ Below (W.heap.size + 1) (W.alloc (.cells #[.int .i64 n, .slice a lg.length cap] 28)) wr) (fun _ x _ => L.length - (intOf x).toNat)
        case atStart => exact ⟨0, !b9, by omega, rfl, by cases b9 <;> rfl, HB0.out, HB3.out⟩
        case round =>
          clear HB0 HB3
          obtain ⟨q, b, hq, rfl, rfl, HQ, hbel⟩ := hrel
          have HB9 := Lib.hid hbel
          have hzr9 : W.heap.size + 1 ≤ wr.heap.size := by have := hbel.size; simpa using this
          clear hbel
          cases b with
          | false =>
            obtain ⟨c0, c1, -, -, -⟩ := HA.out _ HB9.out
            have HFIT := Lib.hid (bandQ_false hq HQ.out)
            by_cases hql : q < L.length
            · go_wp2
              have HT := Lib.hid (HGOF.out (HFIT.out))
              go_roundw
              case rel => exact ⟨j + 1, by omega, by go_num, HT.out, HB9.out⟩
              case measure => simp [intOf]; omega
            · obtain rfl : q = L.length := by omega
              go_wp2
              have HT := Lib.hid (HGOF.out (HFIT.out))
              go_roundw
              case rel => exact ⟨j + 1, by omega, by go_num, HT.out, HB9.out⟩
              case measure => simp [intOf]; omega
          | true =>
            by_cases hql : q < L.length
            · have hqt : decide ((q : Int) < (L.length : Int)) = true := decide_eq_true (by omega)
              obtain ⟨b1, off1, cap1, hv1, -, -, hb1, hc1⟩ := (HLX0.out _ HB9.out).pos (by omega)
              simp only [Value.slice.injEq] at hv1
              obtain ⟨rfl, -, rfl⟩ := hv1
              obtain ⟨hk1, hk2⟩ := HV.out q hql
              obtain ⟨y, hy⟩ : ∃ y, y = kl L q := ⟨_, rfl⟩
              rw [← hy] at hk1 hk2
              have HBXX : Hid (∀ X : Since wr, Below (W.heap.size + 1) (W.alloc (.cells #[.int .i64 n, .slice a lg.length cap] 28)) X.val) := fun X => HB9.out.trans (X.prop.mono hzr9)
              have hx0 : ∀ X : Since wr, X.val.cell? ⟨W.heap.size, 0, none⟩ = some (.int .i64 n) := fun X => (HA.out _ (HBXX.out X)).1
              have hx1 : ∀ X : Since wr, X.val.cell? ⟨W.heap.size, 1, none⟩ = some (.slice a lg.length cap) := fun X => (HA.out _ (HBXX.out X)).2.1
              have hx2 : ∀ X : Since wr, X.val.cell? ⟨b1, off1 + q, none⟩ = some (.int .i64 y) := fun X => by rw [X.prop.cell (p := ⟨b1, off1 + q, none⟩) hb1, hc1 q hql, hk1]
              have HEX : Hid (∀ b, edB lg j y = b → ∀ X : Since wr, Calls Try.prog 95 #[.agg #[.int .i64 n, .slice a lg.length cap], .int .i64 y, .int .i64 j] X.val fun e w' => e = .returned (.bool b) ∧ Below X.val.heap.size X.val w') := fun b hb X => by
                rw [← hb, HSY.out j y hlt hk2]; exact l2Edge_is n _ lg y j _ (HA.out _ (HBXX.out X)).2.2.1 hk2 (by omega)
              obtain ⟨D, hD⟩ : ∃ D : Int, D = (L.length : Int) - (q : Int) := ⟨_, rfl⟩
              have gD : IntKind.i64.wrap ((L.length : Int) - (q : Int)) = D := (IntWalk.i64_in _ (by omega)).trans hD.symm
              have gD' : (L.length : Int) - (q : Int) = D := hD.symm
              have HYY := Lib.hid hy
              have hDK : D ≤ (K : Int) ↔ L.length - q ≤ K := by omega
              have HDK := Lib.hid hDK
              clear hc1 hy hDK
              obtain ⟨c0, c1, -, -, -⟩ := HA.out _ HB9.out
              go_wp2
              clear c0 c1
              try dsimp only [List.append]
              refine wp_region_since (by kernel_rfl) (by kernel_rfl) ?_
              by_cases hd : D ≤ (K : Int)
              · have q1 : decide (D ≤ (K : Int)) = true := decide_eq_true hd
                have HN := Lib.hid (bandQ_yes HQ.out fun _ => HDK.out.1 hd)
                clear hd hD
                repeat (go_big_quiet_step (fail))
                refine wpQuiet_nil ?_
                intro X
                have HB10 := Lib.hid (HBXX.out X)
                clear hx0 hx1 hx2
                go_wp2
                go_roundw
                case rel => exact ⟨q + 1, true, by omega, by go_num, rfl, HN.out, HB10.out⟩
                case measure => simp [intOf]; omega
              · have q1 : decide (D ≤ (K : Int)) = false := decide_eq_false hd
                cases he : edB lg j y with
                | true =>
                  have HE := Lib.hid (HEX.out true he)
                  have HN := Lib.hid (bandQ_no (K := K) (by rw [← HYY.out]; exact he) fun h => hd (HDK.out.2 h))
                  clear hd hD he
                  repeat (go_big_quiet_step (with_reducible exact since_call (HE.out _)))
                  refine wpQuiet_nil ?_
                  intro X
                  have HB10 := Lib.hid (HBXX.out X)
                  clear hx0 hx1 hx2
                  go_wp2
                  go_roundw
                  case rel => exact ⟨q + 1, false, by omega, by go_num, rfl, HN.out, HB10.out⟩
                  case measure => simp [intOf]; omega
                | false =>
                  have HE := Lib.hid (HEX.out false he)
                  have HN := Lib.hid (bandQ_yes HQ.out fun h => by rw [← HYY.out, he] at h; cases h)
                  clear hd hD he
                  repeat (go_big_quiet_step (with_reducible exact since_call (HE.out _)))
                  refine wpQuiet_nil ?_
                  intro X
                  have HB10 := Lib.hid (HBXX.out X)
                  clear hx0 hx1 hx2
                  go_wp2
                  go_roundw
                  case rel => exact ⟨q + 1, true, by omega, by go_num, rfl, HN.out, HB10.out⟩
                  case measure => simp [intOf]; omega
            · obtain rfl : q = L.length := by omega
              have HFIT := Lib.hid (show fitB lg K L j = true by rw [← bandQ_all]; exact HQ.out)
              have HFU := Lib.hid (show F j = srchS lg.length (fitB lg K) (fun _ => true) k (L ++ [(j : Int)]) by rw [HF.out, HFIT.out]; rfl)
              have HLN := Lib.hid (HV.out.snoc hlt)
              obtain ⟨wx, hwx⟩ : ∃ wx, wx = wr := ⟨_, rfl⟩
              have HBX := Lib.hid (show Below (W.heap.size + 1) (W.alloc (.cells #[.int .i64 n, .slice a lg.length cap] 28)) wx by rw [hwx]; exact HB9.out)
              rw [← hwx] at *
              clear hwx
              obtain ⟨c0, c1, cI, cB, hz⟩ := HA.out _ HBX.out
              have hzx : W.heap.size + 1 ≤ wx.heap.size := by have := HBX.out.size; simpa using this
              have HLX : Hid (∀ X, Below wx.heap.size wx X → Ints X (.slice al L.length capl) L) := fun X hX => by
                have hb : Below W.heap.size W X := (HA.out _ (HBX.out.trans (hX.mono hzx))).2.2.2.1
                exact (HO.out.on hb).ints
              have HE1 := Lib.hid ((OwnI.lit0 wx (W.heap.size + 1) hzx).on (Below.refl _ _).drew)
              have HE2 := Lib.hid (((OwnI.lit0 wx (W.heap.size + 1) hzx).alloc (.cells #[.int .i64 (j : Int)] 3)).on (Below.refl _ _).drew)
              have HE3 : Hid (OwnI (W.heap.size + 1) ((wx.alloc (.cells #[.int .i64 (j : Int)] 3)).alloc (.cells #[] 3)).drew (.slice (some ⟨wx.heap.size + 1, 0, none⟩) 0 0) []) := by
                have := (OwnI.lit0 (wx.alloc (.cells #[.int .i64 (j : Int)] 3)) (W.heap.size + 1) (by simp; omega)).on (Below.refl _ _).drew
                show OwnI _ _ _ _
                simpa using this
              have HK1 := Lib.hid (((Below.refl wx.heap.size wx).alloc (Nat.le_refl _) (.cells #[] 3)).drew)
              have HK2 := Lib.hid ((((Below.refl wx.heap.size wx).alloc (Nat.le_refl _) (.cells #[] 3)).alloc (by simp) (.cells #[.int .i64 (j : Int)] 3)).drew)
              have HK3 := Lib.hid ((((Below.refl wx.heap.size wx).alloc (Nat.le_refl _) (.cells #[.int .i64 (j : Int)] 3)).alloc (by simp) (.cells #[] 3)).drew)
              have HU2 : Hid (((wx.alloc (.cells #[] 3)).alloc (.cells #[.int .i64 (j : Int)] 3)).drew.heap[wx.heap.size + 1]? = some (.cells #[.int .i64 (j : Int)] 3 (0, 0))) := by
                have := heap_alloc_new (wx.alloc (.cells #[] 3)) (.cells #[.int .i64 (j : Int)] 3)
                rw [World.size_alloc] at this
                exact this
              have HU3 : Hid (((wx.alloc (.cells #[.int .i64 (j : Int)] 3)).alloc (.cells #[] 3)).drew.heap[wx.heap.size]? = some (.cells #[.int .i64 (j : Int)] 3 (0, 0))) := by
                show ((wx.alloc (.cells #[.int .i64 (j : Int)] 3)).heap.push _)[wx.heap.size]? = _
                rw [Array.getElem?_push, if_neg (by rw [World.size_alloc]; omega)]
                exact heap_alloc_new wx _
              clear cI cB
              go_wp2
              go_region_law (first | (refine step_append_ints rfl (.tmp 58) (.tmp 59) 22 rfl (W.heap.size + 1) i0 Try.underlying22 hi hz0 hz1 hz2 _ [] rfl (by first | exact HE1.out | exact HE2.out | exact HE3.out) _ L rfl (HLX.out _ (by first | exact HK1.out | exact HK2.out | exact HK3.out)) HNIL.out (by simp; omega) (by simp; omega) ?_; intro v1 w1 ho1 hg1 hne1; have HB1 := Lib.hid (Below.grown (HBX.out.trans (Below.mono (by first | exact HK1.out | exact HK2.out | exact HK3.out) hzx)) hg1 (by simp; omega) (fun q hq => by first | exact (HE1.out.lt q hq).1 | exact (HE2.out.lt q hq).1 | exact (HE3.out.lt q hq).1)); have HO1 := Lib.hid (show OwnI (W.heap.size + 1) w1 v1 L from by simpa using ho1); have hz1' : W.heap.size + 1 ≤ w1.heap.size := (by have := HB1.out.size; simp at this; omega); obtain ⟨d0, d1, -, -, hzw1⟩ := HA.out _ HB1.out; clear ho1 hne1) | (refine step_append_int1 rfl (.tmp 60) (.tmp 62) 22 rfl (W.heap.size + 1) i0 Try.underlying22 hi hz0 hz1 hz2 v1 L rfl (by first | exact HO1.out.alloc _ | exact HO1.out) _ (j : Int) (by omega) (by omega) rfl (by first | exact heap_alloc_new w1 _ | (show (w1.alloc _).heap[w1.heap.size]? = _; exact heap_alloc_new w1 _) | exact (hg1.block (wx.heap.size + 1) (by simp) (by show some (wx.heap.size + 1) ≠ some wx.heap.size; simp)).trans HU2.out | exact (hg1.block wx.heap.size (by simp; omega) (by show some wx.heap.size ≠ some (wx.heap.size + 1); simp)).trans HU3.out) (by omega) (by first | omega | (simp; omega)) ?_; intro g2 cap2 w2 ho2 hg2; have HB2 := Lib.hid (show Below (W.heap.size + 1) (W.alloc (.cells #[.int .i64 n, .slice a lg.length cap] 28)) w2 from by first | exact (HB1.out.alloc hz1' _).grown hg2 (by simp; omega) (fun q hq => (HO1.out.lt _ hq).1) | exact HB1.out.grown hg2 hz1' (fun q hq => (HO1.out.lt _ hq).1)); have hln : (L ++ [(j : Int)]).length = L.length + 1 := (by simp); rw [hln] at ho2; have HO2 := Lib.hid ho2; clear hln; obtain ⟨d2, d3, -, -, -⟩ := HA.out _ HB2.out; clear ho2 hg2) | (go_simp; go_at_call 73; refine (HIH.out (L ++ [(j : Int)]) _ _ (HA.out _ HB2.out).2.2.1 (HO2.out.mono (by have := HBW.out; omega)) (by have := HBW.out; have := (HA.out _ HB2.out).2.2.2.1.size; omega) HLN.out (by have := HK.out; simp; omega)).mono ?_; rintro e w5 ⟨v5, rfl, ho5, hb5⟩))
              all_goals
                clear c0 c1 d0 d1 d2 d3
                have HB5 := Lib.hid (HB2.out.trans (hb5.mono (by have := HB2.out.size; simpa using this)))
                rw [← HFU.out] at ho5 ⊢
                have HO6 := Lib.hid ho5
                clear ho5 hb5
                obtain ⟨c0, c1, cI, cB, hz⟩ := HA.out _ HB5.out
                have HCB := Lib.hid cB
                clear cI cB hz
                cases hFu : F j with
                | some y =>
                  have b0 : outS (some y) = true := rfl
                  have HN := Lib.hid (show R = some y by rw [HR.out]; exact firstS_hit hlt HJ.out hFu)
                  rw [hFu] at HO6
                  clear hFu c0 c1
                  go_wp2
                  go_ret2
                  exact ⟨_, by rw [HN.out]; rfl, by rw [HN.out]; exact HO6.out, HCB.out⟩
                | none =>
                  have b0 : outS (none : Option (List Int)) = false := rfl
                  have HT : Hid (∀ t, t < j + 1 → F t = none) := fun t ht => by
                    rcases Nat.lt_or_ge t j with h | h
                    · exact HJ.out t h
                    · obtain rfl : t = j := by omega
                      exact hFu
                  clear hFu
                  go_wp2
                  go_roundw
                  case rel => exact ⟨j + 1, by omega, by go_num, HT.out, HB5.out⟩
                  case measure => simp [intOf]; omega
      · obtain rfl : j = lg.length := by omega
        have hjf : decide ((lg.length : Int) < n) = false := decide_eq_false (by omega)
        have HN := Lib.hid (show R = none by rw [HR.out]; exact firstS_none.2 HJ.out)
        obtain ⟨c0, c1, cI, cB, hz⟩ := HA.out _ hbel
        have HCB := Lib.hid cB
        have hzB : B ≤ wr.heap.size := by have := HBW.out; have := cB.size; omega
        have hzW : W.heap.size ≤ wr.heap.size := cB.size
        have HE := Lib.hid (OwnI.lit0 wr B hzB)
        clear cI cB hz hbel
        go_wp2
        go_ret2
        exact ⟨_, by rw [HN.out]; rfl, by rw [HN.out]; exact HE.out, HCB.out.alloc hzW _⟩

end Go.Proofs.Yteikiifjiapjaaa
