/- The specification's search for an umbrella order; spec.UmbrellaOf, spec.IsProper. -/
import Derived.Test.YteikiifjiapjaaaZ2
import Derived.Test.YteikiifjiapjaaaH8
import Derived.Test.YteikiifjiapjaaaL1
namespace Go.Proofs.Yteikiifjiapjaaa
set_option linter.unusedVariables false
set_option linter.unusedSimpArgs false
open Go.RowKit

set_option maxHeartbeats 1000000 in
set_option maxRecDepth 100000 in
theorem l12Search_is (n : Int) (v : Value) (lg : List Int) (hg : IsG n lg) (B : Nat) :
    ∀ (k : Nat) (L : List Int) (u : Value) (W : World), Ints W v lg → OwnI B W u L → B ≤ W.heap.size → Verts lg L → L.length + k = lg.length →
      Calls Try.prog 69 #[.agg #[.int .i64 n, v], u] W (GetsLB B W (srchS lg.length (fitV lg) (fun _ => true) k L)) := by
  obtain ⟨i0, hi, hz0, hz1, hz2⟩ := info_parts infoInt
  have hn7 := hg.2.1
  have hle : (lg.length : Int) ≤ n := by have := hg.2.2.1; omega
  have hge : n ≤ (lg.length : Int) := by have := hg.2.2.1; omega
  clear hg
  intro k
  induction k with
  | zero =>
    intro L u W hI hO hB hV hk
    obtain ⟨a, cap, rfl, -, -⟩ := hI.form
    obtain ⟨al, capl, rfl, -, -⟩ := hO.ints.form
    have HO := Lib.hid hO
    obtain ⟨R, hR⟩ : ∃ R, R = srchS lg.length (fitV lg) (fun _ => true) 0 L := ⟨_, rfl⟩
    have HR := Lib.hid (show R = some L by rw [hR]; rfl)
    rw [← hR]
    have d0 : ((L.length : Int) == n) = true := by rw [beq_iff_eq]; omega
    clear hI hO hR hi hz0 hz1 hz2 hV
    go_enter Try.func69, Try.ntmps69
    go_wp2
    go_ret2
    exact ⟨_, by rw [HR.out]; rfl, by rw [HR.out]; exact HO.out.alloc _, (Below.refl _ _).alloc (Nat.le_refl _) _⟩
  | succ k ih =>
    intro L u W hI hO hB hV hk
    obtain ⟨a, cap, rfl, -, -⟩ := hI.form
    have HNIL := Lib.hid hO.nilform
    obtain ⟨al, capl, rfl, -, -⟩ := hO.ints.form
    have HI := Lib.hid hI
    have HO := Lib.hid hO
    have HIH := Lib.hid ih
    have HBW := Lib.hid hB
    have HV := Lib.hid hV
    have HA := argG' (T := 28) (n := n) hI
    have d0 : ((L.length : Int) == n) = false := by rw [beq_eq_false_iff_ne]; omega
    obtain ⟨F, hF⟩ : ∃ F : Nat → Option (List Int), F = fun (u : Nat) => if fitV lg L u = true then srchS lg.length (fitV lg) (fun _ => true) k (L ++ [(u : Int)]) else none := ⟨_, rfl⟩
    obtain ⟨R, hR⟩ : ∃ R, R = srchS lg.length (fitV lg) (fun _ => true) (k + 1) L := ⟨_, rfl⟩
    have HR := Lib.hid (show R = firstS F lg.length by rw [hR, hF]; rfl)
    have HF := Lib.hid (fun (u : Nat) => show F u = if fitV lg L u = true then srchS lg.length (fitV lg) (fun _ => true) k (L ++ [(u : Int)]) else none by rw [hF])
    rw [← hR]
    have hL7 : L.length ≤ 6 := by omega
    have HK := Lib.hid hk
    clear hF hR ih hI hO hB hk hV
    go_enter Try.func69, Try.ntmps69
    go_wp2
    clear d0
    go_loopw [6] (fun x wr => ∃ j : Nat, j ≤ lg.length ∧ x = .int .i64 j ∧ Hid (∀ t, t < j → F t = none) ∧ Below (W.heap.size + 1) (W.alloc (.cells #[.int .i64 n, .slice a lg.length cap] 28)) wr) (fun x _ => lg.length - (intOf x).toNat)
    case atStart => exact ⟨0, by omega, rfl, fun t ht => absurd ht (by omega), Below.refl _ _⟩
    case round =>
      obtain ⟨j, hj, rfl, HJ, hbel⟩ := hrel
      have HBL := Lib.hid hbel
      by_cases hlt : j < lg.length
      · have hjt : decide ((j : Int) < n) = true := decide_eq_true (by omega)
        have HGOF : Hid (fitV lg L j = false → ∀ t, t < j + 1 → F t = none) := fun hp t ht => by
          rcases Nat.lt_or_ge t j with h | h
          · exact HJ.out t h
          · obtain rfl : t = j := by omega
            rw [HF.out, hp]; rfl
        have hzr : W.heap.size + 1 ≤ wr.heap.size := by have := hbel.size; simpa using this
        have hzB : W.heap.size + 1 ≤ (wr.alloc (.cells #[] 3)).heap.size := by simp; omega
        have HLX : Hid (∀ X, Below (W.heap.size + 1) (W.alloc (.cells #[.int .i64 n, .slice a lg.length cap] 28)) X → Ints X (.slice al L.length capl) L) := fun X hX => (HO.out.on (HA.out _ hX).2.2.2.1).ints
        have HE := Lib.hid (OwnI.lit0 wr (W.heap.size + 1) hzr)
        have HBE := Lib.hid (hbel.alloc hzr (.cells #[] 3))
        have HLN := Lib.hid (HV.out.snoc hlt)
        obtain ⟨c0, c1, -, -, -⟩ := HA.out _ hbel
        clear hbel
        go_wp2_with (at_builtin; refine wpList_append_ints rfl (.tmp 22) (.tmp 23) 22 rfl (W.heap.size + 1) i0 Try.underlying22 hi hz0 hz1 hz2 _ [] rfl HE.out _ L rfl (HLX.out _ HBE.out) HNIL.out (by simp; omega) hzB ?_)
        intro v1 w1 ho1 hg1 hne1
        have HO1 := Lib.hid (show OwnI (W.heap.size + 1) w1 v1 L from ho1)
        have HB1 := Lib.hid (HBE.out.grown hg1 hzB (fun q hq => (HE.out.lt q hq).1))
        have hz1' : W.heap.size + 1 ≤ w1.heap.size := by have := HB1.out.size; simpa using this
        clear ho1 hg1 hne1 c0 c1 hzB
        go_wp2_with (at_builtin; refine wpList_append_int rfl (.tmp 24) (.tmp 26) 22 rfl (W.heap.size + 1) i0 Try.underlying22 hi hz0 hz1 hz2 _ L rfl HO1.out (j : Int) (by omega) (by omega) rfl (by omega) hz1' ?_)
        intro v2 w2 ho2 hg2 hne2
        have HO2 := Lib.hid ho2
        have HB2 := Lib.hid ((HB1.out.alloc hz1' (.cells #[.int .i64 (j : Int)] 3)).grown hg2 (by simp; omega) (fun q hq => (HO1.out.lt q hq).1))
        clear ho2 hg2 hne2
        have hz2' : W.heap.size + 1 ≤ w2.heap.size := by have := HB2.out.size; simpa using this
        obtain ⟨a2, cap2, rfl, -, -⟩ := HO2.out.ints.form
        have hln : (L ++ [(j : Int)]).length = L.length + 1 := by simp
        rw [hln] at HO2 ⊢
        clear hln
        go_wp2_with fail
        refine (l8Has_dec _ L (j : Int) _ (HLX.out _ HB2.out) (by omega)).mono ?_
        rintro e w3 ⟨rfl, hb3⟩
        have HB3 := Lib.hid (HB2.out.trans (hb3.mono hz2'))
        have HO3 := Lib.hid (HO2.out.on hb3)
        clear hb3
        obtain ⟨c0, c1, -, -, -⟩ := HA.out _ HB3.out
        have hz3' : W.heap.size + 1 ≤ w3.heap.size := by have := HB3.out.size; simpa using this
        cases hin : decide ((j : Int) ∈ L) with
        | true =>
          have HT := Lib.hid (HGOF.out (by unfold fitV; rw [hin]; rfl))
          clear hin
          go_wp2
          go_roundw
          case rel => exact ⟨j + 1, by omega, by go_num, HT.out, HB3.out⟩
          case measure => simp [intOf]; omega
        | false =>
          have HIN := Lib.hid hin
          clear hin
          go_wp2_with fail
          refine (spec12UmbV n _ _ lg (L ++ [(j : Int)]) _ (HA.out _ HB3.out).2.2.1 HO3.out.ints (fun i hi => by obtain ⟨h1, h2⟩ := HLN.out i hi; exact ⟨h1, h2, by omega⟩) (by simp; omega)).mono ?_
          rintro e w4 hs4
          obtain ⟨rfl, hb4⟩ := hs4.dec
          have HB4 := Lib.hid (HB3.out.trans (hb4.mono hz3'))
          have HO4 := Lib.hid (HO3.out.on hb4)
          clear hb4 hs4 c0 c1
          obtain ⟨c0, c1, -, -, -⟩ := HA.out _ HB4.out
          cases hft : decide (UmbP lg (L ++ [(j : Int)])) with
          | false =>
            have HT := Lib.hid (HGOF.out (by unfold fitV; rw [hft]; simp))
            clear hft
            go_wp2
            go_roundw
            case rel => exact ⟨j + 1, by omega, by go_num, HT.out, HB4.out⟩
            case measure => simp [intOf]; omega
          | true =>
            have HFU := Lib.hid (show F j = srchS lg.length (fitV lg) (fun _ => true) k (L ++ [(j : Int)]) by rw [HF.out]; unfold fitV; rw [HIN.out, hft]; rfl)
            clear hft
            go_wp2_with fail
            refine (HIH.out (L ++ [(j : Int)]) _ _ (HA.out _ HB4.out).2.2.1 (HO4.out.mono (by have := HBW.out; omega)) (by have := HBW.out; have := (HA.out _ HB4.out).2.2.2.1.size; omega) HLN.out (by have := HK.out; simp; omega)).mono ?_
            rintro e w5 ⟨v5, rfl, ho5, hb5⟩
            rw [← HFU.out] at ho5 ⊢
            have HO5 := Lib.hid ho5
            have HZ5 := Lib.hid (HB4.out.trans (hb5.mono (by have := HB4.out.size; simpa using this)))
            clear ho5 hb5 c0 c1
            obtain ⟨c0, c1, -, cB, -⟩ := HA.out _ HZ5.out
            have HCB := Lib.hid cB
            clear cB
            cases hFu : F j with
            | some y =>
              have b0 : outS (some y) = true := rfl
              have HN := Lib.hid (show R = some y by rw [HR.out]; exact firstS_hit hlt HJ.out hFu)
              rw [hFu] at HO5
              clear hFu c0 c1
              go_wp2
              go_ret2
              exact ⟨_, by rw [HN.out]; rfl, by rw [HN.out]; exact HO5.out, HCB.out⟩
            | none =>
              have b0 : outS (none : Option (List Int)) = false := rfl
              have HT : Hid (∀ t, t < j + 1 → F t = none) := fun t ht => by
                rcases Nat.lt_or_ge t j with h | h
                · exact HJ.out t h
                · obtain rfl : t = j := by omega
                  exact hFu
              clear hFu
              go_wp2
              go_roundw
              case rel => exact ⟨j + 1, by omega, by go_num, HT.out, HZ5.out⟩
              case measure => simp [intOf]; omega
      · obtain rfl : j = lg.length := by omega
        have hjf : decide ((lg.length : Int) < n) = false := decide_eq_false (by omega)
        have HN := Lib.hid (show R = none by rw [HR.out]; exact firstS_none.2 HJ.out)
        obtain ⟨c0, c1, cI, cB, hz⟩ := HA.out _ hbel
        have HCB := Lib.hid cB
        have hzB : B ≤ wr.heap.size := by have := HBW.out; have := cB.size; omega
        have hzW : W.heap.size ≤ wr.heap.size := cB.size
        have HE := Lib.hid (OwnI.lit0 wr B hzB)
        clear cI cB hz hbel
        go_wp2
        go_ret2
        exact ⟨_, by rw [HN.out]; rfl, by rw [HN.out]; exact HE.out, HCB.out.alloc hzW _⟩

set_option maxHeartbeats 1000000 in
set_option maxRecDepth 100000 in
theorem specUmbO (n : Int) (v : Value) (lg : List Int) (w : World) (h : Ints w v lg) :
    Calls Try.prog 38 #[.agg #[.int .i64 n, v]] w (GetsLB w.heap.size w (umbO n lg)) := by
  obtain ⟨a, cap, rfl, -, -⟩ := h.form
  have HI := Lib.hid h
  have HA := argG' (T := 28) (n := n) h
  obtain ⟨R, hR⟩ : ∃ R, R = umbO n lg := ⟨_, rfl⟩
  have HR := Lib.hid hR
  rw [← hR]
  clear h hR
  go_enter Try.func38, Try.ntmps38
  go_wp2_with fail
  refine (specIsG_any n _ lg _ (HI.out.alloc _)).mono ?_
  rintro e w1 ⟨r, rfl, hr, hb⟩
  have HB := Lib.hid (hb.mono (B' := w.heap.size + 1) (by simp))
  have HRR := Lib.hid hr
  clear hb hr
  obtain ⟨c0, c1, cI, cB, cz⟩ := HA.out _ HB.out
  have HC := Lib.hid cI
  have HCB := Lib.hid cB
  have hzw : w.heap.size ≤ w1.heap.size := cB.size
  clear cI cB
  cases r with
  | false =>
    have HN := Lib.hid (show R = none by rw [HR.out]; unfold umbO; rw [if_neg (fun h => absurd (HRR.out.2 h) (by decide))])
    have HE := Lib.hid (OwnI.lit0 w1 w.heap.size hzw)
    go_wp2
    go_ret2
    exact ⟨_, by rw [HN.out]; rfl, by rw [HN.out]; exact HE.out, HCB.out.alloc hzw _⟩
  | true =>
    have HG := Lib.hid (HRR.out.1 (by first | rfl | trivial))
    have HN := Lib.hid (show R = srchS lg.length (fitV lg) (fun _ => true) lg.length [] by rw [HR.out, umb_search HG.out]; unfold umbO; rw [if_pos HG.out])
    have HE := Lib.hid (OwnI.lit0 w1 w.heap.size hzw)
    have HIE := Lib.hid (HC.out.alloc (.cells #[] 3))
    have hzB : w.heap.size ≤ (w1.alloc (.cells #[] 3)).heap.size := by simp; omega
    go_wp2_with fail
    refine (l12Search_is n _ lg HG.out w.heap.size lg.length [] _ _ HIE.out HE.out hzB (Verts.nil lg) (by simp)).mono ?_
    rintro e w2 ⟨v2, rfl, ho, hb2⟩
    rw [← HN.out] at ho ⊢
    have HO := Lib.hid ho
    have HW := Lib.hid ((HCB.out.alloc hzw (.cells #[] 3)).trans (hb2.mono hzB))
    clear ho hb2 c0 c1 cz hzB
    go_wp2
    go_ret2
    exact ⟨_, rfl, HO.out, HW.out⟩

set_option maxHeartbeats 1000000 in
set_option maxRecDepth 100000 in
theorem specProp (n : Int) (v : Value) (lg : List Int) (w : World) (h : Ints w v lg) :
    Calls Try.prog 40 #[.agg #[.int .i64 n, v]] w (fun e w' => e = .returned (.bool (outS (umbO n lg))) ∧ Below w.heap.size w w') := by
  obtain ⟨a, cap, rfl, -, -⟩ := h.form
  have HI := Lib.hid h
  obtain ⟨b, hb⟩ : ∃ b, b = outS (umbO n lg) := ⟨_, rfl⟩
  have HBB := Lib.hid hb
  rw [← hb]
  clear h hb
  go_enter Try.func40, Try.ntmps40
  go_wp2_with fail
  refine (specUmbO n _ lg _ (HI.out.alloc _)).mono ?_
  rintro e w1 ⟨v1, rfl, -, hb1⟩
  rw [← HBB.out]
  have HW := Lib.hid (((Below.refl _ w).alloc (Nat.le_refl _) _).trans (hb1.mono (B' := w.heap.size) (by simp)))
  clear hb1
  go_wp2
  go_ret
  exact ⟨rfl, HW.out⟩

end Go.Proofs.Yteikiifjiapjaaa
