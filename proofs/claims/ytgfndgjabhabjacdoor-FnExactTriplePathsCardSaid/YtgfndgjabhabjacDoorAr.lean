/- impl.AvoidingPath. -/
import Derived.Test.YtgfndgjabhabjacDoorAr0
import Derived.Test.YtgfndgjabhabjacDoorQt
import Derived.BigRegion
namespace Go.Proofs.YtgfndgjabhabjacDoor
set_option linter.unusedVariables false
set_option linter.unusedSimpArgs false
open Go.RowKit

set_option maxHeartbeats 4000000 in
set_option maxRecDepth 100000 in
theorem implAvo (n : Int) (v : Value) (lg : List Int) (a b c : Int) (w : World) (h : Ints w v lg) (ht : TabT w) :
    Calls Tryd.prog 30 #[.agg #[.int .i64 n, v], .int .i64 a, .int .i64 b, .int .i64 c] w (GetsLB w.heap.size w (avoR n lg a b c)) := by
  obtain ⟨ad, cap, rfl, -, -⟩ := h.form
  have HI := Lib.hid h
  have HA := argG' (T := 29) (n := n) h
  have HT := Lib.hid ht
  obtain ⟨R, hR⟩ : ∃ R, R = avoR n lg a b c := ⟨_, rfl⟩
  have HR := Lib.hid hR
  have HNO : Hid (¬ AvoOk n lg a b c → R = none) := fun h => by rw [hR]; unfold avoR; rw [if_neg h]
  rw [← hR]
  clear h hR ht
  go_enter Tryd.func30, Tryd.ntmps30
  go_wp2_with fail
  refine (implIsG_any n _ lg _ (HI.out.alloc _)).mono ?_
  rintro e w1 ⟨r, rfl, hr, hb⟩
  have HB1 := Lib.hid (hb.mono (B' := w.heap.size + 1) (by simp))
  have HRR := Lib.hid hr
  clear hb hr
  obtain ⟨c0, c1, cI, cB, cz⟩ := HA.out _ HB1.out
  have HC1 := Lib.hid cI
  have HCB1 := Lib.hid cB
  have hz1 : w.heap.size + 1 ≤ w1.heap.size := by have := HB1.out.size; simpa using this
  clear cI cB
  cases r with
  | false =>
    have HN := Lib.hid (HNO.out fun h => absurd (HRR.out.2 h.1) (by decide))
    go_wp2
    go_ret2
    exact ⟨_, by rw [HN.out]; rfl, by rw [HN.out]; exact OwnI.nil0 _ _, HCB1.out⟩
  | true =>
    have HG := Lib.hid (HRR.out.1 (by first | rfl | trivial))
    by_cases hva : 0 ≤ a ∧ a < n
    · go_wp2_with fail
      refine (hasVertex_yes n _ lg a _ HC1.out hva.1 hva.2).mono ?_
      rintro e w2 ⟨rfl, hb⟩
      have HB2 := Lib.hid (HB1.out.trans (hb.mono hz1))
      have hz2 : w.heap.size + 1 ≤ w2.heap.size := by have := HB2.out.size; simpa using this
      clear hb c0 c1 cz
      obtain ⟨c0, c1, cI, cB, cz⟩ := HA.out _ HB2.out
      have HC2 := Lib.hid cI
      have HCB2 := Lib.hid cB
      clear cI cB
      by_cases hvb : 0 ≤ b ∧ b < n
      · go_wp2_with fail
        refine (hasVertex_yes n _ lg b _ HC2.out hvb.1 hvb.2).mono ?_
        rintro e w3 ⟨rfl, hb⟩
        have HB3 := Lib.hid (HB2.out.trans (hb.mono hz2))
        have hz3 : w.heap.size + 1 ≤ w3.heap.size := by have := HB3.out.size; simpa using this
        clear hb c0 c1 cz
        obtain ⟨c0, c1, cI, cB, cz⟩ := HA.out _ HB3.out
        have HC3 := Lib.hid cI
        have HCB3 := Lib.hid cB
        clear cI cB
        by_cases hvc : 0 ≤ c ∧ c < n
        · go_wp2_with fail
          refine (hasVertex_yes n _ lg c _ HC3.out hvc.1 hvc.2).mono ?_
          rintro e w4 ⟨rfl, hb⟩
          have HB4 := Lib.hid (HB3.out.trans (hb.mono hz3))
          have hz4 : w.heap.size + 1 ≤ w4.heap.size := by have := HB4.out.size; simpa using this
          clear hb c0 c1 cz
          have hn7 := HG.out.2.1
          have hn1 := HG.out.1
          have hnl := HG.out.2.2.1
          obtain ⟨A, rfl⟩ := Int.eq_ofNat_of_zero_le hva.1
          obtain ⟨B, rfl⟩ := Int.eq_ofNat_of_zero_le hvb.1
          obtain ⟨C, rfl⟩ := Int.eq_ofNat_of_zero_le hvc.1
          have hC : C < lg.length := by omega
          obtain ⟨k1, k2, -, k4, k5⟩ := away_facts HG.out hC
          have HN := Lib.hid (show R = wayR (rowN lg) (awayN lg C) A B lg.length by
            rw [HR.out]; unfold avoR
            rw [if_pos ⟨HG.out, hva, hvb, hvc⟩]; simp only [Int.toNat_natCast])
          obtain ⟨S, hS⟩ : ∃ S, S = awayN lg C := ⟨_, rfl⟩
          obtain ⟨Q, hQ⟩ : ∃ Q, Q = aroundN (rowN lg) (2 ^ C) := ⟨_, rfl⟩
          rw [← hS] at k2 k4 HN
          rw [← hQ] at k1 k2 k5
          obtain ⟨s1, s2, s3, s4, s5⟩ := shl_one' C (by omega)
          obtain ⟨P, hP⟩ : ∃ P : Int, P = 2 ^ C := ⟨_, rfl⟩
          rw [← hP] at s1 s2 s3 s4 s5 k1
          have f1 : (2 : Int) ^ C = P := hP.symm
          obtain ⟨M, hM⟩ : ∃ M : Int, M = 2 ^ n.toNat - 1 := ⟨_, rfl⟩
          rw [← hM] at k2
          have HAV : Hid (∀ W, Ints W (.slice ad lg.length cap) lg → Calls Tryd.prog 46 #[.agg #[.int .i64 n, .slice ad lg.length cap]] W fun e w' => e = .returned (.int .i64 M) ∧ Below W.heap.size W w') := fun W hW => by rw [hM]; exact allVertices_is n _ lg _ hW hn1 hn7
          have HAR : Hid (∀ W, Ints W (.slice ad lg.length cap) lg → Calls Tryd.prog 55 #[.agg #[.int .i64 n, .slice ad lg.length cap], .int .i64 P] W fun e w' => e = .returned (.int .i64 Q) ∧ Below W.heap.size W w') := fun W hW => by rw [← k1]; exact implAround n _ lg P _ hW
          have HFS : Hid (∀ W, Ints W (.slice ad lg.length cap) lg → TabT W → Calls Tryd.prog 54 #[.agg #[.int .i64 n, .slice ad lg.length cap], .int .i64 S, .int .i64 A, .int .i64 B] W (GetsLB W.heap.size W R)) := fun W hW hT => by rw [HN.out]; exact fsw_is n _ lg HG.out S A B k4 (by omega) (by omega) _ hW hT
          have HST : Hid (∀ W, Below w4.heap.size w4 W → W.cell? ⟨w.heap.size, 0, none⟩ = some (.int .i64 n) ∧ W.cell? ⟨w.heap.size, 1, none⟩ = some (.slice ad lg.length cap) ∧ Ints W (.slice ad lg.length cap) lg ∧ Below w.heap.size w W ∧ TabT W ∧ Below w4.heap.size w4 W) := fun W hW => by
            obtain ⟨c0, c1, cI, cB, -⟩ := HA.out W (HB4.out.trans (hW.mono hz4))
            exact ⟨c0, c1, cI, cB, HT.out.on cB, hW⟩
          clear hS hQ hP hM k1 hva hvb hvc k5 k4 s4 s5
          go_wp2
          have hx0 : ∀ X : Since w4, X.val.cell? ⟨w.heap.size, 0, none⟩ = some (.int .i64 n) := fun X => (HST.out _ X.prop).1
          have hx1 : ∀ X : Since w4, X.val.cell? ⟨w.heap.size, 1, none⟩ = some (.slice ad lg.length cap) := fun X => (HST.out _ X.prop).2.1
          have HXI : Hid (∀ X : Since w4, Ints X.val (.slice ad lg.length cap) lg) := fun X => (HST.out _ X.prop).2.2.1
          have hC64 : C < 64 := by omega
          refine wp_region_since_call 10 (by kernel_rfl) (by kernel_rfl) ?_
          simp only [List.take_succ_cons, List.take_zero, List.drop_succ_cons, List.drop_zero]
          repeat (go_big_quiet_step (first | with_reducible exact since_call (HAV.out _ (HXI.out _)) | with_reducible exact since_call (HAR.out _ (HXI.out _))))
          refine wpQuiet_nil ?_
          intro X
          obtain ⟨-, -, hXi, hXb, hXt, -⟩ := HST.out _ X.prop
          have HXi := Lib.hid hXi
          have HXb := Lib.hid hXb
          have HXt := Lib.hid hXt
          obtain ⟨wx, hwx⟩ : ∃ wx, wx = X.val := ⟨_, rfl⟩
          rw [← hwx] at HXi HXb HXt ⊢
          clear hwx hx0 hx1 hXi hXb hXt
          go_wp2_with fail
          refine (HFS.out _ HXi.out HXt.out).mono ?_
          rintro e wz ⟨vz, rfl, ho, hb⟩
          have HO := Lib.hid (ho.mono (B' := w.heap.size) HXb.out.size)
          have HW := Lib.hid (HXb.out.trans (hb.mono HXb.out.size))
          clear ho hb
          go_wp2
          refine thenQ_normal ?_
          repeat (go_big_quiet_step (fail))
          refine wpQuiet_nil ?_
          go_wp2
          go_ret2
          exact ⟨_, rfl, HO.out, HW.out⟩
        · have HN := Lib.hid (HNO.out fun h => hvc h.2.2.2)
          go_wp2_with fail
          refine (hasVertex_no n _ lg c _ HC3.out hvc).mono ?_
          rintro e w4 ⟨rfl, hb⟩
          have HW := Lib.hid (HCB3.out.trans (hb.mono (by omega)))
          clear hb
          go_wp2
          go_ret2
          exact ⟨_, by rw [HN.out]; rfl, by rw [HN.out]; exact OwnI.nil0 _ _, HW.out⟩
      · have HN := Lib.hid (HNO.out fun h => hvb h.2.2.1)
        go_wp2_with fail
        refine (hasVertex_no n _ lg b _ HC2.out hvb).mono ?_
        rintro e w3 ⟨rfl, hb⟩
        have HW := Lib.hid (HCB2.out.trans (hb.mono (by omega)))
        clear hb
        go_wp2
        go_ret2
        exact ⟨_, by rw [HN.out]; rfl, by rw [HN.out]; exact OwnI.nil0 _ _, HW.out⟩
    · have HN := Lib.hid (HNO.out fun h => hva h.2.1)
      go_wp2_with fail
      refine (hasVertex_no n _ lg a _ HC1.out hva).mono ?_
      rintro e w2 ⟨rfl, hb⟩
      have HW := Lib.hid (HCB1.out.trans (hb.mono (by omega)))
      clear hb
      go_wp2
      go_ret2
      exact ⟨_, by rw [HN.out]; rfl, by rw [HN.out]; exact OwnI.nil0 _ _, HW.out⟩

end Go.Proofs.YtgfndgjabhabjacDoor
