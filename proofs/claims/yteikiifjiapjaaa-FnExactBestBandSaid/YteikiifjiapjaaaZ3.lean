/- firstOrder: the first order each of whose vertices fits. -/
import Derived.Test.YteikiifjiapjaaaZ2
import Derived.Test.YteikiifjiapjaaaU1c
import Derived.Test.YteikiifjiapjaaaG8
import Derived.Test.YteikiifjiapjaaaL1
import Derived.ArgAppend
namespace Go.Proofs.Yteikiifjiapjaaa
set_option linter.unusedVariables false
set_option linter.unusedSimpArgs false
open Go.RowKit

/-- What the test that is handed in answers. -/
def RuleO (f : FuncId) (cp : Array Value) (lg : List Int) (fit : List Int → Nat → Bool) (W0 : World) : Prop :=
  ∀ W (L : List Int) (u : Value) (x : Nat), Ints W u L → Verts lg L → L.length ≤ 7 → x < lg.length → Below W0.heap.size W0 W → Calls Try.prog f (#[u, .int .i64 x] ++ cp) W fun e W' => e = .returned (.bool (fit L x)) ∧ Below W.heap.size W W'

set_option maxHeartbeats 8000000 in
set_option maxRecDepth 100000 in
theorem firstOrder_any (f : FuncId) (cp : Array Value) (fit : List Int → Nat → Bool) (he : Enters f) (n : Int) (v : Value) (lg : List Int) (hg : IsG n lg) (w0 : World) (hr : RuleO f cp lg fit w0) (B : Nat) :
    ∀ (k : Nat) (L : List Int) (u : Value) (W : World), Ints W v lg → OwnI B W u L → B ≤ W.heap.size → Verts lg L → L.length + k = lg.length → Below w0.heap.size w0 W →
      Calls Try.prog 70 #[.agg #[.int .i64 n, v], u, .func (.func f) #[] cp] W (GetsLB B W (srchS lg.length (fun (L : List Int) (u : Nat) => !decide ((u : Int) ∈ L) && fit L u) (fun _ => true) k L)) := by
  obtain ⟨i0, hi, hz0, hz1, hz2⟩ := info_parts infoInt
  have hn7 := hg.2.1
  have hle : (lg.length : Int) ≤ n := by have := hg.2.2.1; omega
  have hge : n ≤ (lg.length : Int) := by have := hg.2.2.1; omega
  have HRU := Lib.hid hr
  unfold Enters at he
  clear hg hr
  intro k
  induction k with
  | zero =>
    intro L u W hI hO hB hV hk h0
    obtain ⟨a, cap, rfl, -, -⟩ := hI.form
    obtain ⟨al, capl, rfl, -, -⟩ := hO.ints.form
    have HO := Lib.hid hO
    obtain ⟨R, hR⟩ : ∃ R, R = srchS lg.length (fun (L : List Int) (u : Nat) => !decide ((u : Int) ∈ L) && fit L u) (fun _ => true) 0 L := ⟨_, rfl⟩
    have HR := Lib.hid (show R = some L by rw [hR]; rfl)
    rw [← hR]
    have d0 : ((L.length : Int) == n) = true := by rw [beq_iff_eq]; omega
    clear hI hO hR hi hz0 hz1 hz2 hV h0
    go_enter Try.func70, Try.ntmps70
    go_wp2
    go_ret2
    exact ⟨_, by rw [HR.out]; rfl, by rw [HR.out]; exact HO.out.alloc _, (Below.refl _ _).alloc (Nat.le_refl _) _⟩
  | succ k ih =>
    intro L u W hI hO hB hV hk h0
    obtain ⟨a, cap, rfl, -, -⟩ := hI.form
    have HF9 := Lib.hid hO.form
    obtain ⟨al, capl, rfl, -, -⟩ := hO.ints.form
    have HI := Lib.hid hI
    have HO := Lib.hid hO
    have HIH := Lib.hid ih
    have HBW := Lib.hid hB
    have HV := Lib.hid hV
    have HW0 := Lib.hid h0
    have HA := argG' (T := 28) (n := n) hI
    have d0 : ((L.length : Int) == n) = false := by rw [beq_eq_false_iff_ne]; omega
    obtain ⟨F, hF⟩ : ∃ F : Nat → Option (List Int), F = fun (u : Nat) => if (!decide ((u : Int) ∈ L) && fit L u) = true then srchS lg.length (fun (L : List Int) (u : Nat) => !decide ((u : Int) ∈ L) && fit L u) (fun _ => true) k (L ++ [(u : Int)]) else none := ⟨_, rfl⟩
    obtain ⟨R, hR⟩ : ∃ R, R = srchS lg.length (fun (L : List Int) (u : Nat) => !decide ((u : Int) ∈ L) && fit L u) (fun _ => true) (k + 1) L := ⟨_, rfl⟩
    have HR := Lib.hid (show R = firstS F lg.length by rw [hR, hF]; rfl)
    have HF := Lib.hid (fun (u : Nat) => show F u = if (!decide ((u : Int) ∈ L) && fit L u) = true then srchS lg.length (fun (L : List Int) (u : Nat) => !decide ((u : Int) ∈ L) && fit L u) (fun _ => true) k (L ++ [(u : Int)]) else none by rw [hF])
    rw [← hR]
    have hL7 : L.length ≤ 6 := by omega
    have HK := Lib.hid hk
    clear hF hR ih hI hO hB hk hV h0
    go_enter Try.func70, Try.ntmps70
    go_wp2
    clear d0
    go_loopw [20] (fun x wr => ∃ j : Nat, j ≤ lg.length ∧ x = .int .i64 j ∧ Hid (∀ t, t < j → F t = none) ∧ Below (W.heap.size + 1) (W.alloc (.cells #[.int .i64 n, .slice a lg.length cap] 28)) wr) (fun x _ => lg.length - (intOf x).toNat)
    case atStart => exact ⟨0, by omega, rfl, fun t ht => absurd ht (by omega), Below.refl _ _⟩
    case round =>
      obtain ⟨j, hj, rfl, HJ, hbel⟩ := hrel
      have HBL := Lib.hid hbel
      by_cases hlt : j < lg.length
      · have hjt : decide ((j : Int) < n) = true := decide_eq_true (by omega)
        have HGOF : Hid ((!decide ((j : Int) ∈ L) && fit L j) = false → ∀ t, t < j + 1 → F t = none) := fun hp t ht => by
          rcases Nat.lt_or_ge t j with h | h
          · exact HJ.out t h
          · obtain rfl : t = j := by omega
            rw [HF.out, hp]; rfl
        have hzr : W.heap.size + 1 ≤ wr.heap.size := by have := hbel.size; simpa using this
        have HLX : Hid (∀ X, Below wr.heap.size wr X → Ints X (.slice al L.length capl) L ∧ OwnI B X (.slice al L.length capl) L ∧ Below w0.heap.size w0 X ∧ Ints X (.slice a lg.length cap) lg) := fun X hX => by
          have hb : Below W.heap.size W X := (HA.out _ (HBL.out.trans (hX.mono hzr))).2.2.2.1
          exact ⟨(HO.out.on hb).ints, HO.out.on hb, HW0.out.trans (hb.mono HW0.out.size), HI.out.on hb⟩
        clear hbel
        go_wp2_with fail
        refine (slicesContains _ L (j : Int) _ (HLX.out _ (Below.refl _ _)).1 (by omega)).mono ?_
        rintro e w1 ⟨rfl, hb1⟩
        have HB1 := Lib.hid hb1
        have HZ1 := Lib.hid (HBL.out.trans (hb1.mono hzr))
        clear hb1
        cases hin : decide ((j : Int) ∈ L) with
        | true =>
          have HT := Lib.hid (HGOF.out (by rw [hin]; rfl))
          clear hin
          go_wp2
          go_roundw
          case rel => exact ⟨j + 1, by omega, by go_num, HT.out, HZ1.out⟩
          case measure => simp [intOf]; omega
        | false =>
          have HIN := Lib.hid hin
          clear hin
          go_wp2_with fail
          refine (HRU.out _ L _ j (HLX.out _ HB1.out).1 HV.out (by omega) hlt (HLX.out _ HB1.out).2.2.1).mono ?_
          rintro e w2 ⟨rfl, hb2⟩
          have HB2 := Lib.hid (HB1.out.trans (hb2.mono HB1.out.size))
          have HZ2 := Lib.hid (HBL.out.trans (HB2.out.mono hzr))
          clear hb2
          cases hft : fit L j with
          | false =>
            have HT := Lib.hid (HGOF.out (by rw [hft]; simp))
            clear hft
            go_wp2
            go_roundw
            case rel => exact ⟨j + 1, by omega, by go_num, HT.out, HZ2.out⟩
            case measure => simp [intOf]; omega
          | true =>
            have HFU := Lib.hid (show F j = srchS lg.length (fun (L : List Int) (u : Nat) => !decide ((u : Int) ∈ L) && fit L u) (fun _ => true) k (L ++ [(j : Int)]) by rw [HF.out, HIN.out, hft]; rfl)
            have HLC := Lib.hid (HLX.out _ HB2.out)
            have HLN := Lib.hid (HV.out.snoc hlt)
            have HA2 := Lib.hid (HA.out _ HZ2.out)
            clear hft
            obtain ⟨c0, c1, -, -, cz⟩ := HA2.out
            rcases HF9.out with ⟨hs, hn⟩ | ⟨g, cp9, hs, hg1, hg2, hg3, hg4, hg5, -⟩
            · simp only [Value.slice.injEq] at hs
              obtain ⟨rfl, -, rfl⟩ := hs
              have HNL := Lib.hid hn
              have hll : L.length ≤ 0 := by rw [hn]; exact Nat.le_refl _
              clear hn
              go_wp2_with (at_builtin; refine wpList_append_grows _ rfl (.tmp 38) (.tmp 40) 22 rfl 3 i0 (.int .i64 0) 1 8 Try.underlying22 hi hz0 hz1 hz2 rfl (by decide) none 0 0 [] rfl (fun _ => ⟨rfl, rfl⟩) rfl (fun b hb => by cases hb) ⟨w2.heap.size, 0, none⟩ 1 1 [.int .i64 (j : Int)] rfl rfl (fun q u hq => by (cases q with | zero => (simp at hq; subst hq; simp [go_sem]) | succ q => simp at hq)) (fun u hu => by (simp at hu; subst hu; rfl)) (by omega) (by unfold maxLen; omega) (by omega) ?_)
              intro v' w4 hown hgrow
              have hB0 : B ≤ w2.heap.size := by have h1 := HBW.out; have h2 := hzr; have h3 := HB2.out.size; omega
              have HO4 := Lib.hid (show OwnI B w4 v' (L ++ [(j : Int)]) from OwnI.mono (B := w2.heap.size + 1) ⟨inI64_append HLC.out.1.1 (inI64_one (by omega) (by omega)), by
                have h1 : (L ++ [(j : Int)]).length = 0 + 1 := by simp [HNL.out]
                have h2 : iv (L ++ [(j : Int)]) = [] ++ [.int .i64 (j : Int)] := by rw [HNL.out]; rfl
                rw [h1, h2]
                exact hown⟩ (by omega))
              have HG4 := Lib.hid (grown_trans (grown_alloc w2 (.cells #[.int .i64 (j : Int)] 3) none) hgrow)
              have HZ4 := Lib.hid (show Below (W.heap.size + 1) (W.alloc (.cells #[.int .i64 n, .slice a lg.length cap] 28)) w4 from HZ2.out.grown HG4.out (by have := HZ2.out.size; simpa using this) (fun q hq => by simp at hq))
              have HA4 := Lib.hid (HA.out _ HZ4.out)
              clear hown hgrow c0 c1 cz
              obtain ⟨c0, c1, -, -, -⟩ := HA4.out
              go_wp2_with fail
              refine (HIH.out (L ++ [(j : Int)]) _ _ HA4.out.2.2.1 HO4.out (by have := HG4.out.size; omega) HLN.out (by have := HK.out; simp; omega) (HW0.out.trans (HA4.out.2.2.2.1.mono HW0.out.size))).mono ?_
              rintro e w5 ⟨v5, rfl, ho5, hb5⟩
              rw [← HFU.out] at ho5 ⊢
              have HO5 := Lib.hid ho5
              have HZ5 := Lib.hid (HZ4.out.trans (hb5.mono (by have := HZ4.out.size; simpa using this)))
              clear ho5 hb5 c0 c1
              obtain ⟨c0, c1, -, cB, -⟩ := HA.out _ HZ5.out
              have HCB := Lib.hid cB
              clear cB
              cases hFu : F j with
              | some y =>
                have b0 : outS (some y) = true := rfl
                have HN := Lib.hid (show R = some y by rw [HR.out]; exact firstS_hit hlt HJ.out hFu)
                rw [hFu] at HO5
                clear hFu c0 c1
                go_wp2
                go_ret2
                exact ⟨_, by rw [HN.out]; rfl, by rw [HN.out]; exact HO5.out, HCB.out⟩
              | none =>
                have b0 : outS (none : Option (List Int)) = false := rfl
                have HT : Hid (∀ t, t < j + 1 → F t = none) := fun t ht => by
                  rcases Nat.lt_or_ge t j with h | h
                  · exact HJ.out t h
                  · obtain rfl : t = j := by omega
                    exact hFu
                clear hFu
                go_wp2
                go_roundw
                case rel => exact ⟨j + 1, by omega, by go_num, HT.out, HZ5.out⟩
                case measure => simp [intOf]; omega
            · simp only [Value.slice.injEq] at hs
              obtain ⟨rfl, -, rfl⟩ := hs
              have hcp : L.length ≤ capl := hg3
              clear hg5
              go_wp2_with (at_builtin; refine wpList_append_grows _ rfl (.tmp 38) (.tmp 40) 22 rfl 3 i0 (.int .i64 0) 1 8 Try.underlying22 hi hz0 hz1 hz2 rfl (by decide) (some ⟨g, 0, none⟩) L.length L.length (iv L) rfl (fun h => by cases h) (by rw [iv_length]; omega) (fun b hb => by (cases hb; exact (HLC.out.1.alloc _).news)) ⟨w2.heap.size, 0, none⟩ 1 1 [.int .i64 (j : Int)] rfl rfl (fun q u hq => by (cases q with | zero => (simp at hq; subst hq; simp [go_sem]) | succ q => simp at hq)) (fun u hu => by (simp at hu; subst hu; rfl)) (by omega) (by unfold maxLen; omega) (by omega) ?_)
              intro v' w4 hown hgrow
              have hB0 : B ≤ w2.heap.size := by have h1 := HBW.out; have h2 := hzr; have h3 := HB2.out.size; omega
              have HO4 := Lib.hid (show OwnI B w4 v' (L ++ [(j : Int)]) from OwnI.mono (B := w2.heap.size + 1) ⟨inI64_append HLC.out.1.1 (inI64_one (by omega) (by omega)), by
                have h1 : (L ++ [(j : Int)]).length = L.length + 1 := by simp
                have h2 : iv (L ++ [(j : Int)]) = iv L ++ [.int .i64 (j : Int)] := (iv_snoc L _).symm
                rw [h1, h2]
                exact hown⟩ (by omega))
              have HG4 := Lib.hid (grown_trans (grown_alloc w2 (.cells #[.int .i64 (j : Int)] 3) none) hgrow)
              have HZ4 := Lib.hid (show Below (W.heap.size + 1) (W.alloc (.cells #[.int .i64 n, .slice a lg.length cap] 28)) w4 from HZ2.out.grown HG4.out (by have := HZ2.out.size; simpa using this) (fun q hq => by simp at hq))
              have HA4 := Lib.hid (HA.out _ HZ4.out)
              clear hown hgrow c0 c1 cz
              obtain ⟨c0, c1, -, -, -⟩ := HA4.out
              go_wp2_with fail
              refine (HIH.out (L ++ [(j : Int)]) _ _ HA4.out.2.2.1 HO4.out (by have := HG4.out.size; omega) HLN.out (by have := HK.out; simp; omega) (HW0.out.trans (HA4.out.2.2.2.1.mono HW0.out.size))).mono ?_
              rintro e w5 ⟨v5, rfl, ho5, hb5⟩
              rw [← HFU.out] at ho5 ⊢
              have HO5 := Lib.hid ho5
              have HZ5 := Lib.hid (HZ4.out.trans (hb5.mono (by have := HZ4.out.size; simpa using this)))
              clear ho5 hb5 c0 c1
              obtain ⟨c0, c1, -, cB, -⟩ := HA.out _ HZ5.out
              have HCB := Lib.hid cB
              clear cB
              cases hFu : F j with
              | some y =>
                have b0 : outS (some y) = true := rfl
                have HN := Lib.hid (show R = some y by rw [HR.out]; exact firstS_hit hlt HJ.out hFu)
                rw [hFu] at HO5
                clear hFu c0 c1
                go_wp2
                go_ret2
                exact ⟨_, by rw [HN.out]; rfl, by rw [HN.out]; exact HO5.out, HCB.out⟩
              | none =>
                have b0 : outS (none : Option (List Int)) = false := rfl
                have HT : Hid (∀ t, t < j + 1 → F t = none) := fun t ht => by
                  rcases Nat.lt_or_ge t j with h | h
                  · exact HJ.out t h
                  · obtain rfl : t = j := by omega
                    exact hFu
                clear hFu
                go_wp2
                go_roundw
                case rel => exact ⟨j + 1, by omega, by go_num, HT.out, HZ5.out⟩
                case measure => simp [intOf]; omega
      · obtain rfl : j = lg.length := by omega
        have hjf : decide ((lg.length : Int) < n) = false := decide_eq_false (by omega)
        have HN := Lib.hid (show R = none by rw [HR.out]; exact firstS_none.2 HJ.out)
        obtain ⟨c0, c1, cI, cB, hz⟩ := HA.out _ hbel
        have HCB := Lib.hid cB
        clear cI cB hz hbel
        go_wp2
        go_ret2
        exact ⟨_, by rw [HN.out]; rfl, by rw [HN.out]; exact OwnI.nil0 _ _, HCB.out⟩

end Go.Proofs.Yteikiifjiapjaaa
