/- The specification's search for a path or a hole. -/
import Derived.Test.YtnlfoecdphhhdaaJ4
import Derived.Test.YtnlfoecdphhhdaaP3
import Derived.Test.YtnlfoecdphhhdaaP5
import Derived.Test.YtnlfoecdphhhdaaL1
import Derived.Test.YtnlfoecdphhhdaaGl
namespace Go.Proofs.Ytnlfoecdphhhdaa
set_option linter.unusedVariables false
set_option linter.unusedSimpArgs false
open Go.RowKit

/-- What the search answers: where there is nothing, any list beside the flag of a closed search. -/
def GetsSr (B : Nat) (w : World) (cl : Bool) (r : Option (List Int)) (e : Ending) (w' : World) : Prop := ∃ v l', e = .returned (.tuple #[v, .bool (outS r)]) ∧ OwnI B w' v l' ∧ (cl = true ∧ r = none ∨ l' = outL r) ∧ Below w.heap.size w w'

set_option maxHeartbeats 8000000 in
set_option maxRecDepth 100000 in
theorem l4Search_is (n : Int) (v : Value) (lg : List Int) (cl : Bool) (N : Nat) (hN : N ≤ 7) (hg : IsG n lg) (B : Nat) :
    ∀ (k : Nat) (L : List Int) (u : Value) (W : World), Ints W v lg → OwnI B W u L → B ≤ W.heap.size → L.length + k = N →
      Calls Try.prog 54 #[.agg #[.int .i64 n, v], u, .int .i64 N, .bool cl] W (GetsSr B W cl (srchS lg.length (fitC n lg cl N) (endC n lg cl) k L)) := by
  obtain ⟨i0, hi, hz0, hz1, hz2⟩ := info_parts infoInt
  have hn7 := hg.2.1
  have hle : (lg.length : Int) ≤ n := by have := hg.2.2.1; omega
  have hge : n ≤ (lg.length : Int) := by have := hg.2.2.1; omega
  have HG := Lib.hid hg
  clear hg
  intro k
  induction k with
  | zero =>
    intro L u W hI hO hB hk
    obtain ⟨a, cap, rfl, -, -⟩ := hI.form
    obtain ⟨al, capl, rfl, -, -⟩ := hO.ints.form
    have HI := Lib.hid hI
    have HO := Lib.hid hO
    obtain ⟨R, hR⟩ : ∃ R, R = srchS lg.length (fitC n lg cl N) (endC n lg cl) 0 L := ⟨_, rfl⟩
    have HR := Lib.hid (show R = if endC n lg cl L then some L else none by rw [hR]; rfl)
    rw [← hR]
    have d0 : ((L.length : Int) == (N : Int)) = true := by rw [beq_iff_eq]; omega
    have d1 : (L.length == N) = true := by rw [beq_iff_eq]; omega
    clear hI hO hR hi hz0 hz1 hz2
    cases cl with
    | true =>
      go_enter Try.func54, Try.ntmps54
      go_wp2_with fail
      refine (specIsHole n _ _ lg L _ (HI.out.alloc _) (HO.out.ints.alloc _) (by omega)).mono ?_
      rintro e w1 ⟨r, rfl, hr, hb⟩
      have HB := Lib.hid (((Below.refl _ W).alloc (Nat.le_refl _) _).trans (hb.mono (B' := W.heap.size) (by simp)))
      have HO1 := Lib.hid ((HO.out.alloc _).on hb)
      have HT := Lib.hid (show endC n lg true L = r by
        unfold endC holT
        cases r with
        | true => rw [decide_eq_true (hr.1 rfl)]; rfl
        | false => rw [decide_eq_false (fun h => absurd (hr.2 h) (by decide))]; rfl)
      clear hb hr
      cases r with
      | true =>
        have HN := Lib.hid (show R = some L by rw [HR.out, HT.out]; rfl)
        go_wp2
        go_ret2
        exact ⟨_, L, by rw [HN.out]; rfl, HO1.out, .inr (by rw [HN.out]; rfl), HB.out⟩
      | false =>
        have HN := Lib.hid (show R = none by rw [HR.out, HT.out]; rfl)
        go_wp2
        go_ret2
        exact ⟨_, L, by rw [HN.out]; rfl, HO1.out, .inl ⟨rfl, HN.out⟩, HB.out⟩
    | false =>
      have HN := Lib.hid (show R = some L by rw [HR.out]; rfl)
      go_enter Try.func54, Try.ntmps54
      go_wp2
      go_ret2
      exact ⟨_, L, by rw [HN.out]; rfl, HO.out.alloc _, .inr (by rw [HN.out]; rfl), (Below.refl _ W).alloc (Nat.le_refl _) _⟩
  | succ k ih =>
    intro L u W hI hO hB hk
    obtain ⟨a, cap, rfl, -, -⟩ := hI.form
    have HNIL := Lib.hid hO.nilform
    obtain ⟨al, capl, rfl, -, -⟩ := hO.ints.form
    have HI := Lib.hid hI
    have HO := Lib.hid hO
    have HIH := Lib.hid ih
    have HBW := Lib.hid hB
    have HA := argG' (T := 28) (n := n) hI
    have d0 : ((L.length : Int) == (N : Int)) = false := by rw [beq_eq_false_iff_ne]; omega
    have d1 : (L.length == N) = false := by rw [beq_eq_false_iff_ne]; omega
    obtain ⟨F, hF⟩ : ∃ F : Nat → Option (List Int), F = fun u => if fitC n lg cl N L u then srchS lg.length (fitC n lg cl N) (endC n lg cl) k (L ++ [(u : Int)]) else none := ⟨_, rfl⟩
    obtain ⟨R, hR⟩ : ∃ R, R = srchS lg.length (fitC n lg cl N) (endC n lg cl) (k + 1) L := ⟨_, rfl⟩
    have HR := Lib.hid (show R = firstS F lg.length by rw [hR, hF]; rfl)
    have HF := Lib.hid (fun u => show F u = if fitC n lg cl N L u then srchS lg.length (fitC n lg cl N) (endC n lg cl) k (L ++ [(u : Int)]) else none by rw [hF])
    rw [← hR]
    have hL7 : L.length ≤ 6 := by omega
    have HK := Lib.hid hk
    clear hF hR ih hI hO hB hk
    go_enter Try.func54, Try.ntmps54
    go_wp2
    clear d0 d1
    go_loopw [10] (fun x wr => ∃ j : Nat, j ≤ lg.length ∧ x = .int .i64 j ∧ Hid (∀ t, t < j → F t = none) ∧ Below (W.heap.size + 1) (W.alloc (.cells #[.int .i64 n, .slice a lg.length cap] 28)) wr) (fun x _ => lg.length - (intOf x).toNat)
    case atStart => exact ⟨0, by omega, rfl, fun t ht => absurd ht (by omega), Below.refl _ _⟩
    case round =>
      obtain ⟨j, hj, rfl, HJ, hbel⟩ := hrel
      by_cases hlt : j < lg.length
      · have hjt : decide ((j : Int) < n) = true := decide_eq_true (by omega)
        have HGOF : Hid (fitC n lg cl N L j = false → ∀ t, t < j + 1 → F t = none) := fun hp t ht => by
          rcases Nat.lt_or_ge t j with h | h
          · exact HJ.out t h
          · obtain rfl : t = j := by omega
            rw [HF.out, hp]; rfl
        obtain ⟨c0, c1, cI, cB, hz⟩ := HA.out _ hbel
        have HB0 := Lib.hid hbel
        have hz1' : W.heap.size + 1 ≤ wr.heap.size := by have := hbel.size; simp at this; omega
        have HLI := Lib.hid (((HO.out.on cB).ints).alloc (.cells #[] 3))
        have HE := Lib.hid (OwnI.lit0 wr (W.heap.size + 1) hz1')
        have HBA := Lib.hid (hbel.alloc hz1' (.cells #[] 3))
        clear cI cB hz hbel
        go_wp2_with (at_builtin; refine wpList_append_ints rfl (.tmp 30) (.tmp 31) 22 rfl (W.heap.size + 1) i0 Try.underlying22 hi hz0 hz1 hz2 (.slice (some ⟨wr.heap.size, 0, none⟩) 0 0) [] rfl HE.out _ L rfl HLI.out HNIL.out (by simp; omega) (by simp; omega) ?_)
        intro v1 w1 ho1 hg1 hne1
        have HB1 := Lib.hid (HBA.out.grown hg1 (by simp; omega) (fun q hq => by have : wr.heap.size = q := (by simpa [Value.ownBlock] using hq); omega))
        have HO1 := Lib.hid (show OwnI (W.heap.size + 1) w1 v1 L from by simpa using ho1)
        have hz2' : W.heap.size + 1 ≤ w1.heap.size := by have := HB1.out.size; simp at this; omega
        clear ho1 hg1 hne1 HLI HE HBA c0 c1
        go_wp2_with (at_builtin; refine wpList_append_int rfl (.tmp 32) (.tmp 34) 22 rfl (W.heap.size + 1) i0 Try.underlying22 hi hz0 hz1 hz2 v1 L rfl HO1.out (j : Int) (by omega) (by omega) rfl (by omega) hz2' ?_)
        intro v2 w2 ho2 hg2 hne2
        have HB2 := Lib.hid ((HB1.out.alloc hz2' _).grown hg2 (by simp; omega) (fun q hq => (HO1.out.lt _ hq).1))
        obtain ⟨X, hX⟩ : ∃ X, X = L ++ [(j : Int)] := ⟨_, rfl⟩
        rw [← hX] at ho2
        have HX := Lib.hid hX
        have HXL := Lib.hid (show X.length = L.length + 1 by rw [hX]; simp)
        obtain ⟨a2, cap2, rfl, -, -⟩ := ho2.ints.form
        have HOX2 := Lib.hid ho2
        have hX7 : X.length ≤ 1048576 := by have := HXL.out; omega
        clear hX ho2 hg2 hne2 HO1 HB1 HB0
        obtain ⟨c0, c1, cI, cB, hz⟩ := HA.out _ HB2.out
        have HI2 := Lib.hid cI
        clear cI cB hz
        go_wp2_with fail
        refine (specIsInducedPath n _ _ lg X _ HI2.out HOX2.out.ints hX7).mono ?_
        rintro e w3 ⟨r, rfl, hr, hb⟩
        have HB3 := Lib.hid (HB2.out.trans (hb.mono (by have := HB2.out.size; simpa using this)))
        have HOX3 := Lib.hid (HOX2.out.on hb)
        have HP := Lib.hid (show patT n lg pathP (L ++ [(j : Int)]) = r by
          rw [← HX.out]
          unfold patT
          cases r with
          | true => rw [decide_eq_true (hr.1 rfl).2]
          | false => rw [decide_eq_false (fun h => absurd (hr.2 ⟨by have := HXL.out; omega, h⟩) (by decide))])
        clear hr hb HOX2 HI2 HB2 c0 c1
        cases r with
        | true =>
          have HFU := Lib.hid (show F j = srchS lg.length (fitC n lg cl N) (endC n lg cl) k X by rw [HF.out]; rw [if_pos (by unfold fitC; rw [HP.out]; rfl), HX.out])
          obtain ⟨c0, c1, cI, cB, hz⟩ := HA.out _ HB3.out
          have HO5 := Lib.hid (show OwnI B w3 (.slice a2 X.length cap2) X from HOX3.out.mono (by have := HBW.out; omega))
          have hB5 : B ≤ w3.heap.size := by have := HBW.out; have := cB.size; omega
          have HI5 := Lib.hid cI
          clear cI cB hz
          go_wp2_with fail
          refine (HIH.out X _ _ HI5.out HO5.out hB5 (by have := HK.out; have := HXL.out; omega)).mono ?_
          rintro e w5 ⟨v5, l5, rfl, ho5, hor, hb5⟩
          have HB5 := Lib.hid (HB3.out.trans (hb5.mono (by have := HB3.out.size; simpa using this)))
          have HO6 := Lib.hid ho5
          have HOR := Lib.hid hor
          rw [← HFU.out] at HOR ⊢
          clear ho5 hor hb5 HI5 HO5 hB5
          cases hFu : F j with
          | some y =>
            have b0 : outS (some y) = true := rfl
            have HN := Lib.hid (show R = some y by rw [HR.out]; exact firstS_hit hlt HJ.out hFu)
            have HL5 := Lib.hid (show l5 = y by
              rcases HOR.out with ⟨-, h⟩ | h
              · rw [hFu] at h; cases h
              · rw [h, hFu]; rfl)
            clear hFu HOR
            obtain ⟨-, -, -, cB, -⟩ := HA.out _ HB5.out
            have HCB := Lib.hid cB
            clear cB
            go_wp2
            go_ret2
            exact ⟨_, l5, by rw [HN.out]; rfl, HO6.out, .inr (by rw [HN.out, HL5.out]; rfl), HCB.out⟩
          | none =>
            have b0 : outS (none : Option (List Int)) = false := rfl
            have HT : Hid (∀ t, t < j + 1 → F t = none) := fun t ht => by
              rcases Nat.lt_or_ge t j with h | h
              · exact HJ.out t h
              · obtain rfl : t = j := by omega
                exact hFu
            clear hFu HOR
            obtain ⟨c0, c1, -, -, -⟩ := HA.out _ HB5.out
            go_wp2
            go_roundw
            case rel => exact ⟨j + 1, by omega, by go_num, HT.out, HB5.out⟩
            case measure => simp [intOf]; omega
        | false =>
          cases cl with
          | false =>
            have HT : Hid (∀ t, t < j + 1 → F t = none) := HGOF.out (by unfold fitC; rw [HP.out]; rfl)
            obtain ⟨c0, c1, -, -, -⟩ := HA.out _ HB3.out
            go_wp2
            go_roundw
            case rel => exact ⟨j + 1, by omega, by go_num, HT.out, HB3.out⟩
            case measure => simp [intOf]; omega
          | true =>
            by_cases hk0 : k = 0
            · have d0 : ((X.length : Int) == (N : Int)) = true := by rw [beq_iff_eq]; have := HXL.out; have := HK.out; omega
              have d1 : (X.length == N) = true := by rw [beq_iff_eq]; have := HXL.out; have := HK.out; omega
              have HEN := Lib.hid (show decide (L.length + 1 = N) = true from decide_eq_true (by have := HK.out; omega))
              clear hk0
              obtain ⟨c0, c1, cI, cB, hz⟩ := HA.out _ HB3.out
              have HI3 := Lib.hid cI
              clear cI cB hz
              go_wp2_with fail
              refine (specIsHole n _ _ lg X _ HI3.out HOX3.out.ints hX7).mono ?_
              rintro e w4 ⟨r, rfl, hr, hb⟩
              have HB4 := Lib.hid (HB3.out.trans (hb.mono (by have := HB3.out.size; simpa using this)))
              have HOX4 := Lib.hid (HOX3.out.on hb)
              have HH := Lib.hid (show holT n lg (L ++ [(j : Int)]) = r by
                rw [← HX.out]
                unfold holT
                cases r with
                | true => rw [decide_eq_true (hr.1 rfl)]
                | false => rw [decide_eq_false (fun h => absurd (hr.2 h) (by decide))])
              clear hr hb HOX3 HI3 HB3 c0 c1 d0 d1
              cases r with
              | true =>
                have HFU := Lib.hid (show F j = srchS lg.length (fitC n lg true N) (endC n lg true) k X by rw [HF.out]; rw [if_pos (by unfold fitC; rw [HP.out, HEN.out, HH.out]; rfl), HX.out])
                obtain ⟨c0, c1, cI, cB, hz⟩ := HA.out _ HB4.out
                have HO5 := Lib.hid (show OwnI B w4 (.slice a2 X.length cap2) X from HOX4.out.mono (by have := HBW.out; omega))
                have hB5 : B ≤ w4.heap.size := by have := HBW.out; have := cB.size; omega
                have HI5 := Lib.hid cI
                clear cI cB hz
                go_wp2_with fail
                refine (HIH.out X _ _ HI5.out HO5.out hB5 (by have := HK.out; have := HXL.out; omega)).mono ?_
                rintro e w5 ⟨v5, l5, rfl, ho5, hor, hb5⟩
                have HB5 := Lib.hid (HB4.out.trans (hb5.mono (by have := HB4.out.size; simpa using this)))
                have HO6 := Lib.hid ho5
                have HOR := Lib.hid hor
                rw [← HFU.out] at HOR ⊢
                clear ho5 hor hb5 HI5 HO5 hB5
                cases hFu : F j with
                | some y =>
                  have b0 : outS (some y) = true := rfl
                  have HN := Lib.hid (show R = some y by rw [HR.out]; exact firstS_hit hlt HJ.out hFu)
                  have HL5 := Lib.hid (show l5 = y by
                    rcases HOR.out with ⟨-, h⟩ | h
                    · rw [hFu] at h; cases h
                    · rw [h, hFu]; rfl)
                  clear hFu HOR
                  obtain ⟨-, -, -, cB, -⟩ := HA.out _ HB5.out
                  have HCB := Lib.hid cB
                  clear cB
                  go_wp2
                  go_ret2
                  exact ⟨_, l5, by rw [HN.out]; rfl, HO6.out, .inr (by rw [HN.out, HL5.out]; rfl), HCB.out⟩
                | none =>
                  have b0 : outS (none : Option (List Int)) = false := rfl
                  have HT : Hid (∀ t, t < j + 1 → F t = none) := fun t ht => by
                    rcases Nat.lt_or_ge t j with h | h
                    · exact HJ.out t h
                    · obtain rfl : t = j := by omega
                      exact hFu
                  clear hFu HOR
                  obtain ⟨c0, c1, -, -, -⟩ := HA.out _ HB5.out
                  go_wp2
                  go_roundw
                  case rel => exact ⟨j + 1, by omega, by go_num, HT.out, HB5.out⟩
                  case measure => simp [intOf]; omega
              | false =>
                have HT : Hid (∀ t, t < j + 1 → F t = none) := HGOF.out (by unfold fitC; rw [HP.out, HEN.out, HH.out]; rfl)
                obtain ⟨c0, c1, -, -, -⟩ := HA.out _ HB4.out
                go_wp2
                go_roundw
                case rel => exact ⟨j + 1, by omega, by go_num, HT.out, HB4.out⟩
                case measure => simp [intOf]; omega
            · have d0 : ((X.length : Int) == (N : Int)) = false := by rw [beq_eq_false_iff_ne]; have := HXL.out; have := HK.out; omega
              have d1 : (X.length == N) = false := by rw [beq_eq_false_iff_ne]; have := HXL.out; have := HK.out; omega
              have HEN := Lib.hid (show decide (L.length + 1 = N) = false from decide_eq_false (by have := HK.out; omega))
              clear hk0
              have HT : Hid (∀ t, t < j + 1 → F t = none) := HGOF.out (by unfold fitC; rw [HP.out, HEN.out]; rfl)
              obtain ⟨c0, c1, -, -, -⟩ := HA.out _ HB3.out
              go_wp2
              go_roundw
              case rel => exact ⟨j + 1, by omega, by go_num, HT.out, HB3.out⟩
              case measure => simp [intOf]; omega
      · obtain rfl : j = lg.length := by omega
        have hjf : decide ((lg.length : Int) < n) = false := decide_eq_false (by omega)
        have HN := Lib.hid (show R = none by rw [HR.out]; exact firstS_none.2 HJ.out)
        obtain ⟨c0, c1, cI, cB, hz⟩ := HA.out _ hbel
        have HCB := Lib.hid cB
        have HBZ := Lib.hid (show B ≤ wr.heap.size by have := HBW.out; have := cB.size; omega)
        have HE := Lib.hid (OwnI.lit0 wr B HBZ.out)
        have hzW : W.heap.size ≤ wr.heap.size := cB.size
        clear cI cB hz hbel
        go_wp2
        go_ret2
        exact ⟨_, [], by rw [HN.out]; rfl, HE.out, .inr (by rw [HN.out]; rfl), HCB.out.alloc hzW _⟩

end Go.Proofs.Ytnlfoecdphhhdaa
