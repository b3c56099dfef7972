/- IsPerfectObstacle, KindOf. -/
import Derived.Test.YtbgkceekkinngabP5
import Derived.Test.YtbgkceekkinngabG9
import Derived.Test.YtbgkceekkinngabM7
import Derived.Test.YtbgkceekkinngabV9
import Derived.Test.YtbgkceekkinngabH3
namespace Go.Proofs.Ytbgkceekkinngab
set_option linter.unusedVariables false
set_option linter.unusedSimpArgs false
open Go.RowKit

def HolP (n : Int) (lg l : List Int) : Prop := 4 ≤ l.length ∧ HasPat n lg l (holeP l.length)

instance (n : Int) (lg l : List Int) : Decidable (HolP n lg l) := by unfold HolP; infer_instance

/-- An odd hole, of a graph or of its complement. -/
def PerfP (n : Int) (lg l : List Int) : Prop := IsG n lg ∧ l.length % 2 = 1 ∧ (HolP n lg l ∨ HolP n (compL lg) l)

instance (n : Int) (lg l : List Int) : Decidable (PerfP n lg l) := by unfold PerfP; infer_instance

theorem HolP.graph {n : Int} {lg l : List Int} (h : HolP n lg l) : IsG n lg := h.2.1.graph

theorem not_isG_nil : ¬ IsG 0 [] := fun h => absurd h.1 (by decide)

def kindR (n : Int) (l : List Int) (x : Int) : Int :=
  if ModS n l x then (if popU x = 1 then 0 else if 1 < plen n l x then 1 else if 1 < plen n (compL l) x then 2 else 3) else -1

set_option maxHeartbeats 2000000 in
set_option maxRecDepth 100000 in
theorem implPerf (n : Int) (v vl : Value) (lg l : List Int) (w : World) (h : Ints w v lg) (hl : Ints w vl l) (hlen : l.length ≤ 1048576) :
    Calls Try.prog 27 #[.agg #[.int .i64 n, v], vl] w (SaysB (PerfP n lg l) w) := by
  obtain ⟨a, cap, rfl, -, -⟩ := h.form
  obtain ⟨al, capl, rfl, -, hml⟩ := hl.form
  have HA := argG' (T := 27) (n := n) h
  have HI := Lib.hid h
  have HL := Lib.hid hl
  unfold maxLen at hml
  clear h hl
  by_cases hg : IsG n lg
  · have HG := Lib.hid hg
    clear hg
    go_enter Try.func27, Try.ntmps27
    go_wp2_with fail
    refine (implComplement_yes n _ lg _ (HI.out.alloc _) HG.out).mono ?_
    rintro e w1 ⟨v1, rfl, ho, hb⟩
    obtain ⟨a1, cap1, rfl, -, -⟩ := ho.ints.form
    have HO := Lib.hid ho.ints
    have HB := Lib.hid (hb.mono (B' := w.heap.size + 1) (by simp))
    clear ho hb
    obtain ⟨w2, hw2⟩ : ∃ w2, w2 = w1.alloc (.cells #[.int .i64 n, .slice a1 (compL lg).length cap1] 27) := ⟨_, rfl⟩
    have HB2 := Lib.hid (show Below (w.heap.size + 1) (w.alloc (.cells #[.int .i64 n, .slice a lg.length cap] 27)) w2 by rw [hw2]; exact HB.out.alloc (HA.out _ HB.out).2.2.2.2 _)
    have HX := Lib.hid (show BoxG w1.heap.size n (.slice a1 (compL lg).length cap1) w2 by rw [hw2]; exact BoxG.new w1 _ n _ ⟨_, _, _, rfl⟩)
    have HO2 := Lib.hid (show Ints w2 (.slice a1 (compL lg).length cap1) (compL lg) by rw [hw2]; exact HO.out.alloc _)
    by_cases hc : l.length % 2 = 1
    · have HC := Lib.hid hc
      have e1 : (l.length : Int) % 2 = 1 := by omega
      have e2 : Int.tmod (l.length : Int) 2 = 1 := by rw [Int.tmod_eq_emod_of_nonneg (by omega)]; exact e1
      clear hc
      obtain ⟨d0, d1, dI, dB, dz⟩ := HA.out _ HB2.out
      have HDI := Lib.hid dI
      have HDB := Lib.hid dB
      clear dI dB
      rw [hw2] at d0 d1
      go_wp2_with fail
      rw [← hw2] at d0 d1 ⊢
      clear hw2
      refine (implIsHole n _ _ lg l _ HDI.out (HL.out.on HDB.out) hlen).mono ?_
      rintro e w3 ⟨r, rfl, hr, hb⟩
      have HR := Lib.hid hr
      have HX3 := HX.out.keep (below_grown hb) (by simp)
      have HO3 := Lib.hid (HO2.out.on hb)
      have HW3 := Lib.hid (HDB.out.trans (hb.mono HDB.out.size))
      clear hr hb d0 d1 dz HDI HDB
      cases r with
      | true =>
        clear HX3
        go_wp2
        go_ret
        exact SaysB.yes ⟨HG.out, HC.out, Or.inl (HR.out.1 (by first | rfl | trivial))⟩ HW3.out
      | false =>
        obtain ⟨k0, k1, kz⟩ := HX3
        go_wp2_with fail
        refine (implIsHole n _ _ (compL lg) l _ HO3.out (HL.out.on HW3.out) hlen).mono ?_
        rintro e w4 ⟨r2, rfl, hr2, hb⟩
        have HR2 := Lib.hid hr2
        have HW4 := Lib.hid (HW3.out.trans (hb.mono HW3.out.size))
        clear hr2 hb k0 k1 kz
        cases r2 with
        | true =>
          go_wp2
          go_ret
          exact SaysB.yes ⟨HG.out, HC.out, Or.inr (HR2.out.1 (by first | rfl | trivial))⟩ HW4.out
        | false =>
          go_wp2
          go_ret
          exact SaysB.no (fun h => h.2.2.elim (fun h => absurd (HR.out.2 h) (by decide)) (fun h => absurd (HR2.out.2 h) (by decide))) HW4.out
    · have HC := Lib.hid hc
      have e1 : (l.length : Int) % 2 = 0 := by omega
      have e2 : Int.tmod (l.length : Int) 2 = 0 := by rw [Int.tmod_eq_emod_of_nonneg (by omega)]; exact e1
      clear hc
      have HDB := Lib.hid (HA.out _ HB2.out).2.2.2.1
      go_wp2
      rw [← hw2]
      clear hw2
      go_ret
      exact SaysB.no (fun h => HC.out h.2.1) HDB.out
  · have HG := Lib.hid hg
    clear hg
    go_enter Try.func27, Try.ntmps27
    go_wp2_with fail
    refine (implComplement_no n _ lg _ (HI.out.alloc _) HG.out).mono ?_
    rintro e w1 ⟨v1, rfl, ho, hb⟩
    obtain ⟨a1, cap1, rfl, -, -⟩ := ho.ints.form
    have HO := Lib.hid ho.ints
    have HB := Lib.hid (hb.mono (B' := w.heap.size + 1) (by simp))
    clear ho hb
    obtain ⟨w2, hw2⟩ : ∃ w2, w2 = w1.alloc (.cells #[.int .i64 0, .slice a1 0 cap1] 27) := ⟨_, rfl⟩
    have HB2 := Lib.hid (show Below (w.heap.size + 1) (w.alloc (.cells #[.int .i64 n, .slice a lg.length cap] 27)) w2 by rw [hw2]; exact HB.out.alloc (HA.out _ HB.out).2.2.2.2 _)
    have HX := Lib.hid (show BoxG w1.heap.size 0 (.slice a1 0 cap1) w2 by rw [hw2]; exact BoxG.new w1 _ 0 _ ⟨_, _, _, rfl⟩)
    have HO2 := Lib.hid (show Ints w2 (.slice a1 0 cap1) [] by rw [hw2]; exact HO.out.alloc _)
    by_cases hc : l.length % 2 = 1
    · have e1 : (l.length : Int) % 2 = 1 := by omega
      have e2 : Int.tmod (l.length : Int) 2 = 1 := by rw [Int.tmod_eq_emod_of_nonneg (by omega)]; exact e1
      clear hc
      obtain ⟨d0, d1, dI, dB, dz⟩ := HA.out _ HB2.out
      have HDI := Lib.hid dI
      have HDB := Lib.hid dB
      clear dI dB
      rw [hw2] at d0 d1
      go_wp2_with fail
      rw [← hw2] at d0 d1 ⊢
      clear hw2
      refine (implIsHole n _ _ lg l _ HDI.out (HL.out.on HDB.out) hlen).mono ?_
      rintro e w3 ⟨r, rfl, hr, hb⟩
      obtain rfl : r = false := by
        cases r with
        | false => rfl
        | true => exact absurd (HolP.graph (hr.1 rfl)) HG.out
      have HX3 := HX.out.keep (below_grown hb) (by simp)
      have HO3 := Lib.hid (HO2.out.on hb)
      have HW3 := Lib.hid (HDB.out.trans (hb.mono HDB.out.size))
      clear hr hb d0 d1 dz HDI HDB
      obtain ⟨k0, k1, kz⟩ := HX3
      go_wp2_with fail
      refine (implIsHole 0 _ _ [] l _ HO3.out (HL.out.on HW3.out) hlen).mono ?_
      rintro e w4 ⟨r2, rfl, hr2, hb⟩
      obtain rfl : r2 = false := by
        cases r2 with
        | false => rfl
        | true => exact absurd (HolP.graph (hr2.1 rfl)) not_isG_nil
      have HW4 := Lib.hid (HW3.out.trans (hb.mono HW3.out.size))
      clear hr2 hb k0 k1 kz
      go_wp2
      go_ret
      exact SaysB.no (fun h => HG.out h.1) HW4.out
    · have e1 : (l.length : Int) % 2 = 0 := by omega
      have e2 : Int.tmod (l.length : Int) 2 = 0 := by rw [Int.tmod_eq_emod_of_nonneg (by omega)]; exact e1
      clear hc
      have HDB := Lib.hid (HA.out _ HB2.out).2.2.2.1
      go_wp2
      rw [← hw2]
      clear hw2
      go_ret
      exact SaysB.no (fun h => HG.out h.1) HDB.out

set_option maxHeartbeats 2000000 in
set_option maxRecDepth 100000 in
theorem specPerf (n : Int) (v vl : Value) (lg l : List Int) (w : World) (h : Ints w v lg) (hl : Ints w vl l) (hlen : l.length ≤ 1048576) :
    Calls Try.prog 26 #[.agg #[.int .i64 n, v], vl] w (SaysB (PerfP n lg l) w) := by
  obtain ⟨a, cap, rfl, -, -⟩ := h.form
  obtain ⟨al, capl, rfl, -, hml⟩ := hl.form
  have HA := argG' (T := 27) (n := n) h
  have HI := Lib.hid h
  have HL := Lib.hid hl
  unfold maxLen at hml
  clear h hl
  by_cases hg : IsG n lg
  · have HG := Lib.hid hg
    clear hg
    go_enter Try.func26, Try.ntmps26
    go_wp2_with fail
    refine (specComplement_yes n _ lg _ (HI.out.alloc _) HG.out).mono ?_
    rintro e w1 ⟨v1, rfl, ho, hb⟩
    obtain ⟨a1, cap1, rfl, -, -⟩ := ho.ints.form
    have HO := Lib.hid ho.ints
    have HB := Lib.hid (hb.mono (B' := w.heap.size + 1) (by simp))
    clear ho hb
    obtain ⟨w2, hw2⟩ : ∃ w2, w2 = w1.alloc (.cells #[.int .i64 n, .slice a1 (compL lg).length cap1] 27) := ⟨_, rfl⟩
    have HB2 := Lib.hid (show Below (w.heap.size + 1) (w.alloc (.cells #[.int .i64 n, .slice a lg.length cap] 27)) w2 by rw [hw2]; exact HB.out.alloc (HA.out _ HB.out).2.2.2.2 _)
    have HX := Lib.hid (show BoxG w1.heap.size n (.slice a1 (compL lg).length cap1) w2 by rw [hw2]; exact BoxG.new w1 _ n _ ⟨_, _, _, rfl⟩)
    have HO2 := Lib.hid (show Ints w2 (.slice a1 (compL lg).length cap1) (compL lg) by rw [hw2]; exact HO.out.alloc _)
    by_cases hc : l.length % 2 = 1
    · have HC := Lib.hid hc
      have e1 : (l.length : Int) % 2 = 1 := by omega
      have e2 : Int.tmod (l.length : Int) 2 = 1 := by rw [Int.tmod_eq_emod_of_nonneg (by omega)]; exact e1
      clear hc
      obtain ⟨d0, d1, dI, dB, dz⟩ := HA.out _ HB2.out
      have HDI := Lib.hid dI
      have HDB := Lib.hid dB
      clear dI dB
      rw [hw2] at d0 d1
      go_wp2_with fail
      rw [← hw2] at d0 d1 ⊢
      clear hw2
      refine (specIsHole n _ _ lg l _ HDI.out (HL.out.on HDB.out) hlen).mono ?_
      rintro e w3 ⟨r, rfl, hr, hb⟩
      have HR := Lib.hid hr
      have HX3 := HX.out.keep (below_grown hb) (by simp)
      have HO3 := Lib.hid (HO2.out.on hb)
      have HW3 := Lib.hid (HDB.out.trans (hb.mono HDB.out.size))
      clear hr hb d0 d1 dz HDI HDB
      cases r with
      | true =>
        clear HX3
        go_wp2
        go_ret
        exact SaysB.yes ⟨HG.out, HC.out, Or.inl (HR.out.1 (by first | rfl | trivial))⟩ HW3.out
      | false =>
        obtain ⟨k0, k1, kz⟩ := HX3
        go_wp2_with fail
        refine (specIsHole n _ _ (compL lg) l _ HO3.out (HL.out.on HW3.out) hlen).mono ?_
        rintro e w4 ⟨r2, rfl, hr2, hb⟩
        have HR2 := Lib.hid hr2
        have HW4 := Lib.hid (HW3.out.trans (hb.mono HW3.out.size))
        clear hr2 hb k0 k1 kz
        cases r2 with
        | true =>
          go_wp2
          go_ret
          exact SaysB.yes ⟨HG.out, HC.out, Or.inr (HR2.out.1 (by first | rfl | trivial))⟩ HW4.out
        | false =>
          go_wp2
          go_ret
          exact SaysB.no (fun h => h.2.2.elim (fun h => absurd (HR.out.2 h) (by decide)) (fun h => absurd (HR2.out.2 h) (by decide))) HW4.out
    · have HC := Lib.hid hc
      have e1 : (l.length : Int) % 2 = 0 := by omega
      have e2 : Int.tmod (l.length : Int) 2 = 0 := by rw [Int.tmod_eq_emod_of_nonneg (by omega)]; exact e1
      clear hc
      have HDB := Lib.hid (HA.out _ HB2.out).2.2.2.1
      go_wp2
      rw [← hw2]
      clear hw2
      go_ret
      exact SaysB.no (fun h => HC.out h.2.1) HDB.out
  · have HG := Lib.hid hg
    clear hg
    go_enter Try.func26, Try.ntmps26
    go_wp2_with fail
    refine (specComplement_no n _ lg _ (HI.out.alloc _) HG.out).mono ?_
    rintro e w1 ⟨v1, rfl, ho, hb⟩
    obtain ⟨a1, cap1, rfl, -, -⟩ := ho.ints.form
    have HO := Lib.hid ho.ints
    have HB := Lib.hid (hb.mono (B' := w.heap.size + 1) (by simp))
    clear ho hb
    obtain ⟨w2, hw2⟩ : ∃ w2, w2 = w1.alloc (.cells #[.int .i64 0, .slice a1 0 cap1] 27) := ⟨_, rfl⟩
    have HB2 := Lib.hid (show Below (w.heap.size + 1) (w.alloc (.cells #[.int .i64 n, .slice a lg.length cap] 27)) w2 by rw [hw2]; exact HB.out.alloc (HA.out _ HB.out).2.2.2.2 _)
    have HDB := Lib.hid (HA.out _ HB2.out).2.2.2.1
    go_wp2
    try rw [← hw2]
    go_ret
    exact SaysB.no (fun h => HG.out h.1) (by first | exact HDB.out | (rw [hw2] at HDB; exact HDB.out))

set_option maxHeartbeats 2000000 in
set_option maxRecDepth 100000 in
theorem implKind (n : Int) (v : Value) (l : List Int) (x : Int) (w : World) (h : Ints w v l) :
    Calls Try.prog 29 #[.agg #[.int .i64 n, v], .int .i64 x] w (SaysN (kindR n l x) w) := by
  obtain ⟨a, cap, rfl, -, -⟩ := h.form
  have HA := argG' (T := 27) (n := n) h
  have HI := Lib.hid h
  clear h
  by_cases hg : IsG n l
  · have HG := Lib.hid hg
    clear hg
    go_enter Try.func29, Try.ntmps29
    go_wp2_with fail
    refine (implComplement_yes n _ l _ (HI.out.alloc _) HG.out).mono ?_
    rintro e w1 ⟨v1, rfl, ho, hb⟩
    obtain ⟨a1, cap1, rfl, -, -⟩ := ho.ints.form
    have HO := Lib.hid ho.ints
    have HB := Lib.hid (hb.mono (B' := w.heap.size + 1) (by simp))
    clear ho hb
    obtain ⟨w2, hw2⟩ : ∃ w2, w2 = w1.alloc (.cells #[.int .i64 n, .slice a1 (compL l).length cap1] 27) := ⟨_, rfl⟩
    have HB2 := Lib.hid (show Below (w.heap.size + 1) (w.alloc (.cells #[.int .i64 n, .slice a l.length cap] 27)) w2 by rw [hw2]; exact HB.out.alloc (HA.out _ HB.out).2.2.2.2 _)
    have HX := Lib.hid (show BoxG w1.heap.size n (.slice a1 (compL l).length cap1) w2 by rw [hw2]; exact BoxG.new w1 _ n _ ⟨_, _, _, rfl⟩)
    have HO2 := Lib.hid (show Ints w2 (.slice a1 (compL l).length cap1) (compL l) by rw [hw2]; exact HO.out.alloc _)
    obtain ⟨d0, d1, dI, dB, dz⟩ := HA.out _ HB2.out
    have HDI := Lib.hid dI
    have HDB := Lib.hid dB
    clear dI dB
    rw [hw2] at d0 d1
    go_wp2_with fail
    rw [← hw2] at d0 d1 ⊢
    clear hw2
    refine (implMod n _ l x _ HDI.out).mono ?_
    rintro e w3 ⟨r, rfl, hr, hb⟩
    have HR := Lib.hid hr
    have HB3 := Lib.hid (HB2.out.trans (hb.mono dz))
    have HX3 := Lib.hid (HX.out.keep (below_grown hb) (by simp))
    have HO3 := Lib.hid (HO2.out.on hb)
    clear hr hb d0 d1 dz HDI HDB
    obtain ⟨f0, f1, fI, fB, fz⟩ := HA.out _ HB3.out
    have HFB := Lib.hid fB
    clear fI fB
    cases r with
    | false =>
      have HN := Lib.hid (show kindR n l x = -1 by unfold kindR; rw [if_neg (fun h => absurd (HR.out.2 h) (by decide))])
      go_wp2
      go_ret
      exact ⟨by rw [HN.out]; rfl, HFB.out⟩
    | true =>
      have HM := Lib.hid (HR.out.1 (by first | rfl | trivial))
      clear HFB
      go_wp2_with fail
      refine (implCountSet x _).mono ?_
      rintro e w5 ⟨rfl, hb⟩
      have HB5 := Lib.hid (HB3.out.trans ((eq_below hb).mono fz))
      have HX5 := Lib.hid (HX3.out.keep (below_grown (eq_below hb)) (by simp))
      have HO5 := Lib.hid (HO3.out.on (eq_below hb))
      clear hb f0 f1 fz
      obtain ⟨f0, f1, fI, fB, fz⟩ := HA.out _ HB5.out
      have HFI := Lib.hid fI
      have HFB := Lib.hid fB
      clear fI fB
      by_cases hp : popU x = 1
      · have d0 : (popU x == 1) = true := by rw [beq_iff_eq]; exact hp
        have HN := Lib.hid (show kindR n l x = 0 by unfold kindR; rw [if_pos HM.out, if_pos hp])
        clear hp
        go_wp2
        go_ret
        exact ⟨by rw [HN.out]; rfl, HFB.out⟩
      · have d0 : (popU x == 1) = false := by rw [beq_eq_false_iff_ne]; exact hp
        have HP := Lib.hid hp
        clear hp
        obtain ⟨L1, hL1⟩ : ∃ L1, L1 = plen n l x := ⟨_, rfl⟩
        obtain ⟨L2, hL2⟩ : ∃ L2, L2 = plen n (compL l) x := ⟨_, rfl⟩
        have HL1 := Lib.hid hL1
        have HL2 := Lib.hid hL2
        clear hL1 hL2
        go_wp2_with fail
        refine (implPlen n _ l x _ HFI.out).mono ?_
        rintro e w6 ⟨a6, cap6, rfl, hb⟩
        rw [← HL1.out]
        have HB6 := Lib.hid (HB5.out.trans (hb.mono fz))
        have HX6 := HX5.out.keep (below_grown hb) (by simp)
        have HO6 := Lib.hid (HO5.out.on hb)
        have HW6 := Lib.hid (HFB.out.trans (hb.mono HFB.out.size))
        clear hb f0 f1 fz HFI HFB d0
        by_cases h1 : 1 < L1
        · have d1 : decide ((1 : Int) < (L1 : Int)) = true := decide_eq_true (by omega)
          have HN := Lib.hid (show kindR n l x = 1 by unfold kindR; rw [if_pos HM.out, if_neg HP.out, if_pos (by rw [← HL1.out]; exact h1)])
          clear h1 HX6
          go_wp2
          go_ret
          exact ⟨by rw [HN.out]; rfl, HW6.out⟩
        · have d1 : decide ((1 : Int) < (L1 : Int)) = false := decide_eq_false (by omega)
          have H1 := Lib.hid (show ¬ 1 < plen n l x by rw [← HL1.out]; exact h1)
          clear h1
          obtain ⟨k0, k1, kz⟩ := HX6
          go_wp2_with fail
          refine (implPlen n _ (compL l) x _ HO6.out).mono ?_
          rintro e w7 ⟨a7, cap7, rfl, hb⟩
          rw [← HL2.out]
          have HW7 := Lib.hid (HW6.out.trans (hb.mono HW6.out.size))
          clear hb k0 k1 kz d1
          by_cases h2 : 1 < L2
          · have d2 : decide ((1 : Int) < (L2 : Int)) = true := decide_eq_true (by omega)
            have HN := Lib.hid (show kindR n l x = 2 by unfold kindR; rw [if_pos HM.out, if_neg HP.out, if_neg H1.out, if_pos (by rw [← HL2.out]; exact h2)])
            clear h2
            go_wp2
            go_ret
            exact ⟨by rw [HN.out]; rfl, HW7.out⟩
          · have d2 : decide ((1 : Int) < (L2 : Int)) = false := decide_eq_false (by omega)
            have HN := Lib.hid (show kindR n l x = 3 by unfold kindR; rw [if_pos HM.out, if_neg HP.out, if_neg H1.out, if_neg (by rw [← HL2.out]; exact h2)])
            clear h2
            go_wp2
            go_ret
            exact ⟨by rw [HN.out]; rfl, HW7.out⟩
  · have HG := Lib.hid hg
    clear hg
    go_enter Try.func29, Try.ntmps29
    go_wp2_with fail
    refine (implComplement_no n _ l _ (HI.out.alloc _) HG.out).mono ?_
    rintro e w1 ⟨v1, rfl, ho, hb⟩
    obtain ⟨a1, cap1, rfl, -, -⟩ := ho.ints.form
    have HO := Lib.hid ho.ints
    have HB := Lib.hid (hb.mono (B' := w.heap.size + 1) (by simp))
    clear ho hb
    obtain ⟨w2, hw2⟩ : ∃ w2, w2 = w1.alloc (.cells #[.int .i64 0, .slice a1 0 cap1] 27) := ⟨_, rfl⟩
    have HB2 := Lib.hid (show Below (w.heap.size + 1) (w.alloc (.cells #[.int .i64 n, .slice a l.length cap] 27)) w2 by rw [hw2]; exact HB.out.alloc (HA.out _ HB.out).2.2.2.2 _)
    have HX := Lib.hid (show BoxG w1.heap.size 0 (.slice a1 0 cap1) w2 by rw [hw2]; exact BoxG.new w1 _ 0 _ ⟨_, _, _, rfl⟩)
    have HO2 := Lib.hid (show Ints w2 (.slice a1 0 cap1) ([] : List Int) by rw [hw2]; exact HO.out.alloc _)
    obtain ⟨d0, d1, dI, dB, dz⟩ := HA.out _ HB2.out
    have HDI := Lib.hid dI
    have HDB := Lib.hid dB
    clear dI dB
    rw [hw2] at d0 d1
    go_wp2_with fail
    rw [← hw2] at d0 d1 ⊢
    clear hw2
    refine (implMod n _ l x _ HDI.out).mono ?_
    rintro e w3 ⟨r, rfl, hr, hb⟩
    have HR := Lib.hid hr
    have HB3 := Lib.hid (HB2.out.trans (hb.mono dz))
    obtain rfl : r = false := by
      cases r with
      | false => rfl
      | true => exact absurd (hr.1 rfl).1.1 HG.out
    have HN := Lib.hid (show kindR n l x = -1 by unfold kindR; rw [if_neg (fun h => HG.out h.1.1)])
    clear hr hb d0 d1 dz HDI HDB
    have HFB := Lib.hid (HA.out _ HB3.out).2.2.2.1
    go_wp2
    go_ret
    exact ⟨by rw [HN.out]; rfl, HFB.out⟩

set_option maxHeartbeats 2000000 in
set_option maxRecDepth 100000 in
theorem specKind (n : Int) (v : Value) (l : List Int) (x : Int) (w : World) (h : Ints w v l) :
    Calls Try.prog 28 #[.agg #[.int .i64 n, v], .int .i64 x] w (SaysN (kindR n l x) w) := by
  obtain ⟨a, cap, rfl, -, -⟩ := h.form
  have HA := argG' (T := 27) (n := n) h
  have HI := Lib.hid h
  clear h
  go_enter Try.func28, Try.ntmps28
  go_wp2_with fail
  refine (specMod n _ l x _ (HI.out.alloc _)).mono ?_
  rintro e w1 ⟨r, rfl, hr, hb⟩
  have HB := Lib.hid (hb.mono (B' := w.heap.size + 1) (by simp))
  have HR := Lib.hid hr
  clear hr hb
  obtain ⟨d0, d1, dI, dB, dz⟩ := HA.out _ HB.out
  have HDI := Lib.hid dI
  have HDB := Lib.hid dB
  clear dI dB
  cases r with
  | false =>
    have HN := Lib.hid (show kindR n l x = -1 by unfold kindR; rw [if_neg (fun h => absurd (HR.out.2 h) (by decide))])
    go_wp2
    go_ret
    exact ⟨by rw [HN.out]; rfl, HDB.out⟩
  | true =>
    have HM := Lib.hid (HR.out.1 (by first | rfl | trivial))
    go_wp2_with fail
    refine (specComplement_yes n _ l _ HDI.out HM.out.1.1).mono ?_
    rintro e w2 ⟨v2, rfl, ho, hb⟩
    obtain ⟨a1, cap1, rfl, -, -⟩ := ho.ints.form
    have HO := Lib.hid ho.ints
    have HB2 := Lib.hid (HB.out.trans (hb.mono dz))
    clear ho hb d0 d1 dz HDI HDB
    obtain ⟨w3, hw3⟩ : ∃ w3, w3 = w2.alloc (.cells #[.int .i64 n, .slice a1 (compL l).length cap1] 27) := ⟨_, rfl⟩
    have HB3 := Lib.hid (show Below (w.heap.size + 1) (w.alloc (.cells #[.int .i64 n, .slice a l.length cap] 27)) w3 by rw [hw3]; exact HB2.out.alloc (HA.out _ HB2.out).2.2.2.2 _)
    have HX3 := Lib.hid (show BoxG w2.heap.size n (.slice a1 (compL l).length cap1) w3 by rw [hw3]; exact BoxG.new w2 _ n _ ⟨_, _, _, rfl⟩)
    have HO3 := Lib.hid (show Ints w3 (.slice a1 (compL l).length cap1) (compL l) by rw [hw3]; exact HO.out.alloc _)
    obtain ⟨f0, f1, -, -, fz⟩ := HA.out _ HB3.out
    go_wp2_with fail
    rw [← hw3]
    clear hw3
    refine (specCountSet x _).mono ?_
    rintro e w5 ⟨rfl, hb⟩
    have HB5 := Lib.hid (HB3.out.trans (hb.mono fz))
    have HX5 := Lib.hid (HX3.out.keep (below_grown hb) (by simp))
    have HO5 := Lib.hid (HO3.out.on hb)
    clear hb f0 f1 fz
    obtain ⟨f0, f1, fI, fB, fz⟩ := HA.out _ HB5.out
    have HFI := Lib.hid fI
    have HFB := Lib.hid fB
    clear fI fB
    by_cases hp : popU x = 1
    · have d0 : (popU x == 1) = true := by rw [beq_iff_eq]; exact hp
      have HN := Lib.hid (show kindR n l x = 0 by unfold kindR; rw [if_pos HM.out, if_pos hp])
      clear hp
      go_wp2
      go_ret
      exact ⟨by rw [HN.out]; rfl, HFB.out⟩
    · have d0 : (popU x == 1) = false := by rw [beq_eq_false_iff_ne]; exact hp
      have HP := Lib.hid hp
      clear hp
      obtain ⟨L1, hL1⟩ : ∃ L1, L1 = plen n l x := ⟨_, rfl⟩
      obtain ⟨L2, hL2⟩ : ∃ L2, L2 = plen n (compL l) x := ⟨_, rfl⟩
      have HL1 := Lib.hid hL1
      have HL2 := Lib.hid hL2
      clear hL1 hL2
      go_wp2_with fail
      refine (specPlen n _ l x _ HFI.out).mono ?_
      rintro e w6 ⟨a6, cap6, rfl, hb⟩
      rw [← HL1.out]
      have HB6 := Lib.hid (HB5.out.trans (hb.mono fz))
      have HX6 := HX5.out.keep (below_grown hb) (by simp)
      have HO6 := Lib.hid (HO5.out.on hb)
      have HW6 := Lib.hid (HFB.out.trans (hb.mono HFB.out.size))
      clear hb f0 f1 fz HFI HFB d0
      by_cases h1 : 1 < L1
      · have d1 : decide ((1 : Int) < (L1 : Int)) = true := decide_eq_true (by omega)
        have HN := Lib.hid (show kindR n l x = 1 by unfold kindR; rw [if_pos HM.out, if_neg HP.out, if_pos (by rw [← HL1.out]; exact h1)])
        clear h1 HX6
        go_wp2
        go_ret
        exact ⟨by rw [HN.out]; rfl, HW6.out⟩
      · have d1 : decide ((1 : Int) < (L1 : Int)) = false := decide_eq_false (by omega)
        have H1 := Lib.hid (show ¬ 1 < plen n l x by rw [← HL1.out]; exact h1)
        clear h1
        obtain ⟨k0, k1, kz⟩ := HX6
        go_wp2_with fail
        refine (specPlen n _ (compL l) x _ HO6.out).mono ?_
        rintro e w7 ⟨a7, cap7, rfl, hb⟩
        rw [← HL2.out]
        have HW7 := Lib.hid (HW6.out.trans (hb.mono HW6.out.size))
        clear hb k0 k1 kz d1
        by_cases h2 : 1 < L2
        · have d2 : decide ((1 : Int) < (L2 : Int)) = true := decide_eq_true (by omega)
          have HN := Lib.hid (show kindR n l x = 2 by unfold kindR; rw [if_pos HM.out, if_neg HP.out, if_neg H1.out, if_pos (by rw [← HL2.out]; exact h2)])
          clear h2
          go_wp2
          go_ret
          exact ⟨by rw [HN.out]; rfl, HW7.out⟩
        · have d2 : decide ((1 : Int) < (L2 : Int)) = false := decide_eq_false (by omega)
          have HN := Lib.hid (show kindR n l x = 3 by unfold kindR; rw [if_pos HM.out, if_neg HP.out, if_neg H1.out, if_neg (by rw [← HL2.out]; exact h2)])
          clear h2
          go_wp2
          go_ret
          exact ⟨by rw [HN.out]; rfl, HW7.out⟩

end Go.Proofs.Ytbgkceekkinngab
