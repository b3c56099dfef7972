/- spec.l8Joined. -/
import Derived.Test.YtpifgmmmmhenmabHt
import Derived.Test.YtpifgmmmmhenmabQ
import Derived.BigQuiet
namespace Go.Proofs.Ytpifgmmmmhenmab
set_option linter.unusedVariables false
set_option linter.unusedSimpArgs false
open Go.RowKit Go.Shelf

set_option maxHeartbeats 4000000 in
set_option maxRecDepth 100000 in
theorem joined8_is (v u : Value) (l m : List Int) (w : World) (h : Ints w v l) (g : Ints w u m) (hs : Sets7 l) (hp : ParP l m) (hl : l.length ≤ 1048576) :
    Calls Try.prog 55 #[.agg #[v, u]] w (SaysB (OnceB (begT l m) l.length) w) := by
  obtain ⟨ad, cap, rfl, -, -⟩ := h.form
  obtain ⟨bd, cap', rfl, -, -⟩ := g.form
  have HI := Lib.hid h
  have HJ := Lib.hid g
  have HS := Lib.hid hs
  have HP := Lib.hid hp
  obtain ⟨w0, hw0⟩ : ∃ w0, w0 = w.alloc (.cells #[.slice ad l.length cap, .slice bd m.length cap'] 42) := ⟨_, rfl⟩
  have F0 := Lib.hid (show Below w.heap.size w w0 by rw [hw0]; exact (Below.refl _ w).alloc (Nat.le_refl _) _)
  have A0 := Lib.hid (show Box w.heap.size [.slice ad l.length cap, .slice bd m.length cap'] w0 by rw [hw0]; exact Box.new w _ _)
  clear h g hs hp
  go_enter Try.func55, Try.ntmps55
  go_wp2
  rw [← hw0]
  clear hw0
  go_loopw [3, 4, 5] (fun xv _ _ wr => ∃ u : Nat, u ≤ 7 ∧ xv = .int .i64 u ∧ Hid (∀ j, j < u → cntB (begT l m j) l.length ≤ 1) ∧ Hid (Below w0.heap.size w0 wr)) (fun xv _ _ _ => 7 - (intOf xv).toNat)
  case atStart => exact ⟨0, by omega, rfl, Lib.hid (fun j h => absurd h (by omega)), Lib.hid (Below.refl _ _)⟩
  case round =>
    obtain ⟨u, hu, rfl, HJ1, HBW⟩ := hrel
    by_cases hlt : u < 7
    · have d0 : decide ((u : Int) < 7) = true := decide_eq_true (by omega)
      have d0' : decide (u < 7) = true := decide_eq_true hlt
      go_wp2
      go_loopw [4, 5] (fun bg xi wr => ∃ i : Nat, i ≤ l.length ∧ xi = .int .i64 i ∧ bg = .int .i64 (cntB (begT l m u) i : Nat) ∧ Hid (Below w0.heap.size w0 wr)) (fun _ xi _ => l.length - (intOf xi).toNat)
      case atStart => exact ⟨0, by omega, rfl, by first | rfl | (simp [cntB]; done), HBW⟩
      case round =>
        clear HBW
        obtain ⟨i, hil, rfl, rfl, HBW⟩ := hrel
        have hcl := cntB_le (begT l m u) i
        have HCS := Lib.hid (cntB_succ (begT l m u) i)
        obtain ⟨c, hc⟩ : ∃ c, c = cntB (begT l m u) i := ⟨_, rfl⟩
        have HC := Lib.hid hc
        rw [← hc] at hcl ⊢
        clear hc
        have F1 := Lib.hid (F0.out.trans (HBW.out.mono F0.out.size))
        have b0 : wr.cell? ⟨w.heap.size, 0, none⟩ = some (.slice ad l.length cap) := (A0.out.on HBW.out).1 0 _ rfl
        have b1 : wr.cell? ⟨w.heap.size, 1, none⟩ = some (.slice bd m.length cap') := (A0.out.on HBW.out).1 1 _ rfl
        by_cases hli : i < l.length
        · have d1 : decide ((i : Int) < (l.length : Int)) = true := decide_eq_true (by omega)
          have d1' : decide (i < l.length) = true := decide_eq_true hli
          have hml := HP.out.1
          obtain ⟨b, off, cp1, hv, _, hm, hb, hcell⟩ := HI.out.pos (by omega)
          simp only [Value.slice.injEq] at hv
          obtain ⟨rfl, -, rfl⟩ := hv
          obtain ⟨b2, off2, cp2, hv, _, hm2, hb2, hcell2⟩ := HJ.out.pos (by omega)
          simp only [Value.slice.injEq] at hv
          obtain ⟨rfl, -, rfl⟩ := hv
          unfold maxLen at hm hm2
          have him : i < m.length := by omega
          obtain ⟨e1, e2⟩ := HS.out.at hli
          have c0 := (F1.out.cell (p := ⟨b, off + i, none⟩) hb).trans (hcell i hli)
          rw [e1] at c0
          obtain ⟨A, hA⟩ : ∃ A, A = setAt l i := ⟨_, rfl⟩
          rw [← hA] at c0 e2
          obtain ⟨t, ht⟩ : ∃ t, t = bitAt (A : Int) u := ⟨_, rfl⟩
          have k1 : bits .and .i64 ((A : Int) / 2 ^ u) 1 = t := by rw [ht]; exact and_one_bit _ u
          have z1 : t = 0 ∨ t = 1 := by rw [ht]; exact bitAt_two _ _
          have HTA := Lib.hid (show t = 1 ↔ (setAt l i).testBit u = true by rw [ht, hA, bitAt_nat])
          clear ht hA e1 hml
          rcases z1 with rfl | rfl
          · have HE := Lib.hid (show cntB (begT l m u) (i + 1) = c by
              have hn : ¬ begT l m u i = true := by
                intro h
                unfold begT at h
                rw [Bool.and_eq_true] at h
                exact absurd (HTA.out.2 h.1) (by decide)
              rw [HCS.out, if_neg hn, ← HC.out, Nat.add_zero])
            clear hcell hcell2
            go_wp2
            go_quiet (fail)
            go_wp2
            go_roundw
            case rel => exact ⟨i + 1, by omega, by go_num, by rw [HE.out], Lib.hid (below_drewN HBW.out _)⟩
            case measure => simp [intOf]; omega
          · have hbA := HTA.out.1 rfl
            have g1 : IntKind.i64.wrap ((c : Int) + 1) = (c : Int) + 1 := IntWalk.i64_in _ (by omega) |>.trans (by omega)
            by_cases hi0 : i = 0
            · have HE := Lib.hid (show cntB (begT l m u) (i + 1) = c + 1 by
                rw [HCS.out, if_pos (by unfold begT; rw [hbA, hi0]; rfl), ← HC.out])
              have q0 : ((i : Int) == 0) = true := by rw [beq_iff_eq]; omega
              clear hcell hcell2 hi0
              go_wp2
              go_quiet (fail)
              go_wp2
              go_roundw
              case rel => exact ⟨i + 1, by omega, by go_num, by rw [HE.out]; go_num, Lib.hid (below_drewN HBW.out _)⟩
              case measure => simp [intOf]; omega
            · have q0 : ((i : Int) == 0) = false := by rw [beq_eq_false_iff_ne]; omega
              obtain ⟨y1, y2⟩ := HP.out.2 i (by omega) hli
              obtain ⟨k, hk⟩ : ∃ k : Nat, nth m i = (k : Int) := ⟨(nth m i).toNat, by omega⟩
              have hki : k < i := by omega
              have hkl : k < l.length := by omega
              have c1 := (F1.out.cell (p := ⟨b2, off2 + i, none⟩) hb2).trans (hcell2 i him)
              rw [hk] at c1
              obtain ⟨f1, f2⟩ := HS.out.at hkl
              have c2 := (F1.out.cell (p := ⟨b, off + k, none⟩) hb).trans (hcell k hkl)
              rw [f1] at c2
              obtain ⟨B, hB⟩ : ∃ B, B = setAt l k := ⟨_, rfl⟩
              rw [← hB] at c2 f2
              obtain ⟨s, hs⟩ : ∃ s, s = bitAt (B : Int) u := ⟨_, rfl⟩
              have k2 : bits .and .i64 ((B : Int) / 2 ^ u) 1 = s := by rw [hs]; exact and_one_bit _ u
              have z2 : s = 0 ∨ s = 1 := by rw [hs]; exact bitAt_two _ _
              have HSB := Lib.hid (show s = 1 ↔ (setAt l (nth m i).toNat).testBit u = true by rw [hk, Int.toNat_natCast, hs, hB, bitAt_nat])
              have hi0' : (i == 0) = false := by simpa using hi0
              clear hs hB f1 hcell hcell2 y1 y2 hk
              rcases z2 with rfl | rfl
              · have HE := Lib.hid (show cntB (begT l m u) (i + 1) = c + 1 by
                  rw [HCS.out, if_pos, ← HC.out]
                  unfold begT
                  rw [hbA]
                  have : (setAt l (nth m i).toNat).testBit u = false := by
                    cases h : (setAt l (nth m i).toNat).testBit u with
                    | false => rfl
                    | true => exact absurd (HSB.out.2 h) (by decide)
                  rw [this]
                  simp)
                clear hi0 hi0'
                go_wp2
                go_quiet (fail)
                go_wp2
                go_roundw
                case rel => exact ⟨i + 1, by omega, by go_num, by rw [HE.out]; go_num, Lib.hid (below_drewN HBW.out _)⟩
                case measure => simp [intOf]; omega
              · have HE := Lib.hid (show cntB (begT l m u) (i + 1) = c by
                  have hn : ¬ begT l m u i = true := by
                    unfold begT
                    rw [hi0', HSB.out.1 rfl]
                    simp
                  rw [HCS.out, if_neg hn, ← HC.out, Nat.add_zero])
                clear hi0 hi0'
                go_wp2
                go_quiet (fail)
                go_wp2
                go_roundw
                case rel => exact ⟨i + 1, by omega, by go_num, by rw [HE.out], Lib.hid (below_drewN HBW.out _)⟩
                case measure => simp [intOf]; omega
        · obtain rfl : i = l.length := by omega
          have d1 : decide ((l.length : Int) < (l.length : Int)) = false := by simp
          have d1' : decide (l.length < l.length) = false := by simp
          by_cases hc1 : c ≤ 1
          · have d2 : decide ((1 : Int) < (c : Int)) = false := by simp; omega
            have d2' : decide (1 < c) = false := by simp; omega
            go_wp2
            go_roundw
            case rel =>
              refine ⟨u + 1, by omega, by go_num, Lib.hid (fun j hj => ?_), HBW⟩
              rcases Nat.lt_or_ge j u with h | h
              · exact HJ1.out j h
              · obtain rfl : j = u := by omega
                rw [← HC.out]
                exact hc1
            case measure => simp [intOf]; omega
          · have d2 : decide ((1 : Int) < (c : Int)) = true := decide_eq_true (by omega)
            have d2' : decide (1 < c) = true := decide_eq_true (by omega)
            have HN := Lib.hid (show ¬ OnceB (begT l m) l.length from fun h => hc1 (by rw [HC.out]; exact h u hlt))
            go_wp2
            go_ret
            exact SaysB.no HN.out F1.out
    · obtain rfl : u = 7 := by omega
      have HN := Lib.hid (show OnceB (begT l m) l.length from fun j hj => HJ1.out j hj)
      have F1 := Lib.hid (F0.out.trans (HBW.out.mono F0.out.size))
      go_wp2
      go_ret
      exact SaysB.yes HN.out F1.out

end Go.Proofs.Ytpifgmmmmhenmab
