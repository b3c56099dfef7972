/- spec.BestBand, BandwidthOf. -/
import Derived.Test.YteikiifjiapjaaaZ8
import Derived.Test.YteikiifjiapjaaaZ9
import Derived.Test.YteikiifjiapjaaaM5
namespace Go.Proofs.Yteikiifjiapjaaa
set_option linter.unusedVariables false
set_option linter.unusedSimpArgs false
open Go.RowKit

set_option maxHeartbeats 2000000 in
set_option maxRecDepth 100000 in
theorem specBest (n : Int) (v : Value) (lg : List Int) (w : World) (h : Ints w v lg) :
    Calls Try.prog 42 #[.agg #[.int .i64 n, v]] w (GetsLB w.heap.size w (bandO n lg)) := by
  obtain ⟨a, cap, rfl, -, -⟩ := h.form
  have HI := Lib.hid h
  have HA := argG' (T := 28) (n := n) h
  obtain ⟨R, hR⟩ : ∃ R, R = bandO n lg := ⟨_, rfl⟩
  have HR := Lib.hid hR
  have HNO : Hid (¬ IsG n lg → R = none) := fun h => by rw [hR]; unfold bandO; rw [if_neg h]
  have HYES : Hid (IsG n lg → R = firstS (bandF n lg) lg.length) := fun h => by rw [hR]; unfold bandO; rw [if_pos h]
  have b0 : outS (none : Option (List Int)) = false := rfl
  rw [← hR]
  clear h hR
  go_enter Try.func42, Try.ntmps42
  go_wp2
  go_loopw [4] (fun c wr => ∃ j : Nat, c = .int .i64 j ∧ (j = 0 ∨ (j : Int) ≤ n) ∧ Hid (j = 0 ∨ IsG n lg) ∧ Hid (∀ t, t < j → bandF n lg t = none) ∧ Below (w.heap.size + 1) (w.alloc (.cells #[.int .i64 n, .slice a lg.length cap] 28)) wr) (fun c _ => n.toNat - (intOf c).toNat)
  case atStart => exact ⟨0, rfl, .inl rfl, .inl rfl, fun t ht => absurd ht (by omega), Below.refl _ _⟩
  case round =>
    obtain ⟨j, rfl, hj, HG0, HJ, hbel⟩ := hrel
    have HBL := Lib.hid hbel
    have hzr : w.heap.size + 1 ≤ wr.heap.size := by have := hbel.size; simpa using this
    clear hbel
    obtain ⟨c0, c1, cI, cB, cz⟩ := HA.out _ HBL.out
    have HCI := Lib.hid cI
    have HCB := Lib.hid cB
    have hzW : w.heap.size ≤ wr.heap.size := cB.size
    clear cI cB
    by_cases hjn : (j : Int) < n
    · have hjt : decide ((j : Int) < n) = true := decide_eq_true hjn
      go_wp2_with fail
      refine (specIsG_any n _ lg _ HCI.out).mono ?_
      rintro e w1 ⟨r, rfl, hr, hb⟩
      have HB1 := Lib.hid (HBL.out.trans (hb.mono hzr))
      have HRR := Lib.hid hr
      clear hb hr c0 c1 cz
      obtain ⟨c0, c1, cI, cB, cz⟩ := HA.out _ HB1.out
      have HC1 := Lib.hid cI
      have HCB1 := Lib.hid cB
      have hzW1 : w.heap.size ≤ w1.heap.size := cB.size
      have hz1 : w.heap.size + 1 ≤ w1.heap.size := by have := HB1.out.size; simpa using this
      have HE := Lib.hid (OwnI.lit0 w1 w.heap.size hzW1)
      clear cI cB
      cases r with
      | false =>
        have HN := Lib.hid (HNO.out fun h => absurd (HRR.out.2 h) (by decide))
        go_wp2
        go_ret2
        exact ⟨_, by rw [HN.out]; rfl, by rw [HN.out]; exact HE.out, HCB1.out.alloc hzW1 _⟩
      | true =>
        have HG := Lib.hid (HRR.out.1 (by first | rfl | trivial))
        have hn7 := HG.out.2.1
        have hnl := HG.out.2.2.1
        have hjl : j < lg.length := by omega
        clear hnl
        have HIE := Lib.hid (HC1.out.alloc (.cells #[] 3))
        have HBE := Lib.hid (HB1.out.alloc hz1 (.cells #[] 3))
        have hzB : w.heap.size ≤ (w1.alloc (.cells #[] 3)).heap.size := by simp; omega
        have hzB1 : w.heap.size + 1 ≤ (w1.alloc (.cells #[] 3)).heap.size := by simp; omega
        go_wp2_with fail
        refine (l27Band_is n _ lg HG.out w.heap.size j (by omega) lg.length [] _ _ HIE.out HE.out hzB (Verts.nil lg) (by simp)).mono ?_
        rintro e w3 ⟨v3, rfl, ho, hb3⟩
        have HB3 := Lib.hid (HBE.out.trans (hb3.mono hzB1))
        obtain ⟨X, hX⟩ : ∃ X, X = srchS lg.length (fitB lg j) (fun _ => true) lg.length [] := ⟨_, rfl⟩
        rw [← hX] at ho ⊢
        have HX := Lib.hid (show bandF n lg j = X by rw [hX]; rfl)
        have HO := Lib.hid ho
        have HW := Lib.hid (HA.out _ HB3.out).2.2.2.1
        clear ho hb3 c0 c1 hX hzB hzB1 cz
        cases X with
        | some y =>
          have b1 : outS (some y) = true := rfl
          have HN2 := Lib.hid (show R = some y by rw [HYES.out HG.out]; exact firstS_hit hjl HJ.out HX.out)
          go_wp2
          go_ret2
          exact ⟨_, by rw [HN2.out]; rfl, by rw [HN2.out]; exact HO.out, HW.out⟩
        | none =>
          have HT : Hid (∀ t, t < j + 1 → bandF n lg t = none) := fun t ht => by
            rcases Nat.lt_or_ge t j with h | h
            · exact HJ.out t h
            · obtain rfl : t = j := by omega
              exact HX.out
          go_wp2
          go_roundw
          case rel => exact ⟨j + 1, by go_num, .inr (by omega), .inr HG.out, HT.out, HB3.out⟩
          case measure => simp [intOf]; omega
    · have hjf : decide ((j : Int) < n) = false := decide_eq_false hjn
      have HN2 := Lib.hid (show R = none by
        rcases HG0.out with h | h
        · refine HNO.out fun hg => ?_
          have := hg.1
          omega
        · rw [HYES.out h]
          refine firstS_none.2 fun t ht => HJ.out t ?_
          have := h.2.2.1
          omega)
      have HE := Lib.hid (OwnI.lit0 wr w.heap.size hzW)
      clear hj
      go_wp2
      go_ret2
      exact ⟨_, by rw [HN2.out]; rfl, by rw [HN2.out]; exact HE.out, HCB.out.alloc hzW _⟩

/-- The band of the best order, -1 where there is none. -/
def bwR (n : Int) (lg : List Int) : Int := bandR n lg (outL (bandO n lg))

theorem bw_none {n : Int} {lg : List Int} (h : bandO n lg = none) : bwR n lg = -1 := by
  unfold bwR bandR
  rw [h, if_neg]
  intro ho
  have h1 := ho.2
  have h2 := ho.graph.1
  simp [outL] at h1
  omega

set_option maxHeartbeats 1000000 in
set_option maxRecDepth 100000 in
theorem implBW (n : Int) (v : Value) (lg : List Int) (w : World) (h : Ints w v lg) :
    Calls Try.prog 45 #[.agg #[.int .i64 n, v]] w (SaysN (bwR n lg) w) := by
  obtain ⟨a, cap, rfl, -, -⟩ := h.form
  have HI := Lib.hid h
  have HA := argG' (T := 28) (n := n) h
  obtain ⟨R, hR⟩ : ∃ R, R = bwR n lg := ⟨_, rfl⟩
  have HR := Lib.hid hR
  rw [← hR]
  clear h hR
  go_enter Try.func45, Try.ntmps45
  go_wp2_with fail
  refine (implBest n _ lg _ (HI.out.alloc _)).mono ?_
  rintro e w1 ⟨v1, rfl, ho, hb⟩
  have HB1 := Lib.hid (hb.mono (B' := w.heap.size + 1) (by simp))
  have HO := Lib.hid ho
  clear ho hb
  obtain ⟨c0, c1, cI, cB, cz⟩ := HA.out _ HB1.out
  have HCI := Lib.hid cI
  have HCB := Lib.hid cB
  clear cI cB
  go_wp2_with fail
  refine (implBand n _ _ lg (outL (bandO n lg)) _ HCI.out HO.out.ints (by have := bandO_len n lg; omega)).mono ?_
  rintro e w2 ⟨rfl, hb⟩
  have HW := Lib.hid (HCB.out.trans (hb.mono HCB.out.size))
  have HX := Lib.hid (show bandR n lg (outL (bandO n lg)) = R by rw [HR.out]; rfl)
  rw [HX.out]
  clear hb
  go_wp2
  go_ret
  exact ⟨rfl, HW.out⟩

set_option maxHeartbeats 1000000 in
set_option maxRecDepth 100000 in
theorem specBW (n : Int) (v : Value) (lg : List Int) (w : World) (h : Ints w v lg) :
    Calls Try.prog 44 #[.agg #[.int .i64 n, v]] w (SaysN (bwR n lg) w) := by
  obtain ⟨a, cap, rfl, -, -⟩ := h.form
  have HI := Lib.hid h
  have HA := argG' (T := 28) (n := n) h
  obtain ⟨R, hR⟩ : ∃ R, R = bwR n lg := ⟨_, rfl⟩
  have HR := Lib.hid hR
  rw [← hR]
  clear h hR
  go_enter Try.func44, Try.ntmps44
  go_wp2_with fail
  refine (specBest n _ lg _ (HI.out.alloc _)).mono ?_
  rintro e w1 ⟨v1, rfl, ho, hb⟩
  have HB1 := Lib.hid (hb.mono (B' := w.heap.size + 1) (by simp))
  have HO := Lib.hid ho
  clear ho hb
  obtain ⟨c0, c1, cI, cB, cz⟩ := HA.out _ HB1.out
  have HCI := Lib.hid cI
  have HCB := Lib.hid cB
  clear cI cB
  cases hX : bandO n lg with
  | none =>
    have b0 : outS (none : Option (List Int)) = false := rfl
    have HN := Lib.hid (show R = -1 by rw [HR.out]; exact bw_none hX)
    clear hX HO
    go_wp2
    go_ret
    exact ⟨by rw [HN.out] <;> rfl, HCB.out⟩
  | some y =>
    have b0 : outS (some y) = true := rfl
    have HX := Lib.hid (show bandR n lg y = R by rw [HR.out]; unfold bwR; rw [hX]; rfl)
    have hy := bandO_len n lg
    rw [hX] at HO hy
    have HO1 := Lib.hid (show OwnI _ w1 v1 y from HO.out)
    have hy7 : y.length ≤ 7 := hy
    clear hX HO hy
    go_wp2_with fail
    refine (specBand n _ _ lg y _ HCI.out HO1.out.ints (by omega)).mono ?_
    rintro e w2 ⟨rfl, hb⟩
    have HW := Lib.hid (HCB.out.trans (hb.mono HCB.out.size))
    rw [HX.out]
    clear hb
    go_wp2
    go_ret
    exact ⟨rfl, HW.out⟩

end Go.Proofs.Yteikiifjiapjaaa
