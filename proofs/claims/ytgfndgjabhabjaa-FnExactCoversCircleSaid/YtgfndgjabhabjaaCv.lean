/- spec.CoversCircle. -/
import Derived.Test.YtgfndgjabhabjaaY18
import Derived.Test.YtgfndgjabhabjaaG5
namespace Go.Proofs.Ytgfndgjabhabjaa
set_option linter.unusedVariables false
set_option linter.unusedSimpArgs false
open Go.RowKit

/-- Each point of the circle lies on an arc of the set. -/
def CovP (n : Int) (l m : List Int) (x : Int) : Prop := ArcsP n l m ∧ (0 ≤ x ∧ x < 2 ^ l.length) ∧ ∀ t, t < n.toNat → bits .and .i64 (arcR n l m (t : Int)) x ≠ 0

instance (n : Int) (l m : List Int) (x : Int) : Decidable (CovP n l m x) := by unfold CovP; infer_instance

set_option maxHeartbeats 2000000 in
set_option maxRecDepth 100000 in
theorem specCovers (n : Int) (v u : Value) (l m : List Int) (x : Int) (w : World) (h : Ints w v l) (g : Ints w u m) (hl : l.length ≤ 1048576) (hm : m.length ≤ 1048576) (hn0 : -9223372036854775808 ≤ n) (hn1 : n ≤ 9223372036854775807) :
    Calls Try.prog 16 #[.agg #[.int .i64 n, v, u], .int .i64 x] w (SaysB (CovP n l m x) w) := by
  obtain ⟨ad, cap, rfl, -, -⟩ := h.form
  obtain ⟨bd, cap', rfl, -, -⟩ := g.form
  have HI := Lib.hid h
  have HJ := Lib.hid g
  clear h g
  have F0 := Lib.hid (show Below w.heap.size w (w.alloc (.cells #[.int .i64 n, .slice ad l.length cap, .slice bd m.length cap'] 27)) from (Below.refl _ w).alloc (Nat.le_refl _) _)
  have A0 := Lib.hid (show Box w.heap.size [.int .i64 n, .slice ad l.length cap, .slice bd m.length cap'] (w.alloc (.cells #[.int .i64 n, .slice ad l.length cap, .slice bd m.length cap'] 27)) from Box.new w _ _)
  obtain ⟨w0, hw0⟩ : ∃ w0, w0 = (w.alloc (.cells #[.int .i64 n, .slice ad l.length cap, .slice bd m.length cap'] 27)) := ⟨_, rfl⟩
  rw [← hw0] at F0 A0
  have HBX : Hid (∀ W, Below w0.heap.size w0 W → W.cell? ⟨w.heap.size, 0, none⟩ = some (.int .i64 n) ∧ W.cell? ⟨w.heap.size, 1, none⟩ = some (.slice ad l.length cap) ∧ W.cell? ⟨w.heap.size, 2, none⟩ = some (.slice bd m.length cap') ∧ Below w.heap.size w W) := fun W hW =>
    ⟨(A0.out.on hW).1 0 _ rfl, (A0.out.on hW).1 1 _ rfl, (A0.out.on hW).1 2 _ rfl, F0.out.trans (hW.mono F0.out.size)⟩
  go_enter Try.func16, Try.ntmps16
  go_wp2
  rw [← hw0]
  clear hw0
  go_loopw [5] (fun c wr => ∃ t : Nat, c = .int .i64 t ∧ (t = 0 ∨ (t : Int) ≤ n) ∧ Hid ((t = 0 ∨ ArcsP n l m) ∧ ∀ s, s < t → bits .and .i64 (arcR n l m (s : Int)) x ≠ 0) ∧ Below w0.heap.size w0 wr) (fun c _ => n.toNat - (intOf c).toNat)
  case atStart => exact ⟨0, rfl, .inl rfl, ⟨.inl rfl, fun s hs => absurd hs (by omega)⟩, Below.refl _ _⟩
  case round =>
    obtain ⟨t, rfl, htn, HT, hbel⟩ := hrel
    have HBL := Lib.hid hbel
    obtain ⟨x0, x1, x2, -⟩ := HBX.out _ hbel
    clear hbel
    have HTL : Hid (∀ s, s < t → s < n.toNat) := fun s hs => by omega
    by_cases hlt : (t : Int) < n
    · have d0 : decide ((t : Int) < n) = true := decide_eq_true hlt
      go_wp2_with fail
      refine (specIsArcs n _ _ l m _ (HI.out.on (HBX.out _ HBL.out).2.2.2) (HJ.out.on (HBX.out _ HBL.out).2.2.2) hl hm).mono ?_
      rintro e w2 ⟨r, rfl, hr, hb2⟩
      have HRT := Lib.hid hr
      have HBL2 := Lib.hid (HBL.out.trans (hb2.mono HBL.out.size))
      clear hr hb2 x0 x1 x2
      obtain ⟨x0, x1, x2, -⟩ := HBX.out _ HBL2.out
      cases r with
      | false =>
        have HNA := Lib.hid (show ¬ ArcsP n l m from fun h => absurd (HRT.out.2 h) (by decide))
        go_wp2_with fail
        refine (specIsArcs n _ _ l m _ (HI.out.on (HBX.out _ HBL2.out).2.2.2) (HJ.out.on (HBX.out _ HBL2.out).2.2.2) hl hm).mono ?_
        rintro e w3 ⟨r3, rfl, hr3, hb3⟩
        obtain rfl : r3 = false := by cases r3 with
          | false => rfl
          | true => exact absurd (hr3.1 rfl) HNA.out
        have HB3 := Lib.hid ((HBX.out _ HBL2.out).2.2.2.trans (hb3.mono (HBX.out _ HBL2.out).2.2.2.size))
        clear hr3 hb3 x0 x1 x2
        go_wp2
        go_ret
        exact SaysB.no (fun h => HNA.out h.1) HB3.out
      | true =>
        have HA := Lib.hid (HRT.out.1 (by first | rfl | trivial))
        obtain ⟨Q, hQ⟩ : ∃ Q, Q = arcR n l m (t : Int) := ⟨_, rfl⟩
        obtain ⟨P, hP⟩ : ∃ P, P = bits .and .i64 Q x := ⟨_, rfl⟩
        have e1 : bits .and .i64 Q x = P := hP.symm
        have HP := Lib.hid (show P = bits .and .i64 (arcR n l m (t : Int)) x by rw [hP, hQ])
        have HCA : Hid (∀ W, Below w0.heap.size w0 W → Calls Try.prog 65 #[.agg #[.int .i64 n, .slice ad l.length cap, .slice bd m.length cap'], .int .i64 t] W fun e w' => e = .returned (.int .i64 Q) ∧ Below W.heap.size W w') := fun W hW => by
          rw [hQ]
          exact specArcsAt n _ _ l m (t : Int) W (HI.out.on (HBX.out _ hW).2.2.2) (HJ.out.on (HBX.out _ hW).2.2.2) hl hm
        have hn30 := HA.out.1.2
        clear hQ hP
        go_wp2_with fail
        refine (HCA.out _ HBL2.out).mono ?_
        rintro e w4 ⟨rfl, hb4⟩
        have HBL4 := Lib.hid (HBL2.out.trans (hb4.mono HBL2.out.size))
        clear hb4 x0 x1 x2
        by_cases hP0 : P = 0
        · have q1 : (P == 0) = true := by rw [beq_iff_eq]; exact hP0
          have HN : Hid (¬ CovP n l m x) := fun h => h.2.2 t (by omega) (by rw [← HP.out]; exact hP0)
          clear hP0
          go_wp2
          go_ret
          exact SaysB.no HN.out (HBX.out _ HBL4.out).2.2.2
        · have q1 : (P == 0) = false := by rw [beq_eq_false_iff_ne]; exact hP0
          have HT2 : Hid ((t + 1 = 0 ∨ ArcsP n l m) ∧ ∀ s, s < t + 1 → bits .and .i64 (arcR n l m (s : Int)) x ≠ 0) := ⟨.inr HA.out, fun s hs => by
            rcases Nat.lt_or_ge s t with h | h
            · exact HT.out.2 s h
            · obtain rfl : s = t := by omega
              rw [← HP.out]; exact hP0⟩
          clear hP0
          go_wp2
          go_roundw
          case rel => exact ⟨t + 1, by go_num, .inr (by omega), HT2.out, HBL4.out⟩
          case measure => simp [intOf]; omega
    · have d0 : decide ((t : Int) < n) = false := decide_eq_false hlt
      go_wp2_with fail
      refine (specIsArcs n _ _ l m _ (HI.out.on (HBX.out _ HBL.out).2.2.2) (HJ.out.on (HBX.out _ HBL.out).2.2.2) hl hm).mono ?_
      rintro e w3 ⟨r3, rfl, hr3, hb3⟩
      have HRT := Lib.hid hr3
      have HBL3 := Lib.hid (HBL.out.trans (hb3.mono HBL.out.size))
      have HB3 := Lib.hid ((HBX.out _ HBL.out).2.2.2.trans (hb3.mono (HBX.out _ HBL.out).2.2.2.size))
      clear hr3 hb3 x0 x1 x2
      obtain ⟨x0, x1, x2, -⟩ := HBX.out _ HBL3.out
      cases r3 with
      | false =>
        have HNA := Lib.hid (show ¬ ArcsP n l m from fun h => absurd (HRT.out.2 h) (by decide))
        go_wp2
        go_ret
        exact SaysB.no (fun h => HNA.out h.1) HB3.out
      | true =>
        have HA := Lib.hid (HRT.out.1 (by first | rfl | trivial))
        have hl7 := HA.out.2.1.2
        obtain ⟨s1, s2, s3, s4, s5⟩ := shl_one' l.length (by omega)
        obtain ⟨K, hK⟩ : ∃ K : Int, K = 2 ^ l.length := ⟨_, rfl⟩
        have f1 : (2 : Int) ^ l.length = K := hK.symm
        rw [← hK] at s1 s2 s3 s4 s5
        have HALL : Hid (∀ s, s < n.toNat → bits .and .i64 (arcR n l m (s : Int)) x ≠ 0) := fun s hs => HT.out.2 s (by omega)
        have HCV := Lib.hid (show CovP n l m x ↔ 0 ≤ x ∧ x < K from ⟨fun h => by rw [hK]; exact h.2.1, fun h => ⟨HA.out, by rw [hK] at h; exact h, HALL.out⟩⟩)
        clear hK
        by_cases h0 : 0 ≤ x
        · by_cases h1 : x < K
          · have HY := Lib.hid (HCV.out.2 ⟨h0, h1⟩)
            go_wp2
            go_ret
            exact SaysB.yes HY.out HB3.out
          · have HN := Lib.hid (show ¬ CovP n l m x from fun h => h1 (HCV.out.1 h).2)
            have q2 : decide (x < K) = false := decide_eq_false h1
            go_wp2
            go_ret
            exact SaysB.no HN.out HB3.out
        · have HN := Lib.hid (show ¬ CovP n l m x from fun h => h0 (HCV.out.1 h).1)
          go_wp2
          go_ret
          exact SaysB.no HN.out HB3.out

end Go.Proofs.Ytgfndgjabhabjaa
