/- spec.MaximalCliques. -/
import Derived.Test.YtpifgmmmmhenmabMq
import Derived.Test.YtpifgmmmmhenmabV4
import Derived.Test.YtpifgmmmmhenmabF1
import Derived.Test.YtpifgmmmmhenmabT1
namespace Go.Proofs.Ytpifgmmmmhenmab
set_option linter.unusedVariables false
set_option linter.unusedSimpArgs false
open Go.RowKit

/-- None of the first j vertices may be put to X. -/
def wholeB (l : List Int) (X j : Nat) : Bool := (List.range j).all fun v => X.testBit v || (rowN l v &&& X != X)

theorem wholeB_succ (l : List Int) (X j : Nat) : wholeB l X (j + 1) = (wholeB l X j && (X.testBit j || (rowN l j &&& X != X))) := by
  unfold wholeB
  rw [List.range_succ, List.all_append]
  simp

theorem rowN_symm {n : Int} {l : List Int} (hg : IsG n l) {u v : Nat} (hu : u < l.length) (hv : v < l.length) (h : (rowN l u).testBit v = true) : (rowN l v).testBit u = true := by
  rw [hg.row_sym v u hv hu]
  exact h

theorem whole_is {n : Int} {l : List Int} (hg : IsG n l) {X : Nat} (hX : X < 2 ^ l.length) : wholeB l X l.length = (comN l X == 0) := by
  have hl : l.length ≤ 7 := by have := hg.2.1; have := hg.2.2.1; omega
  have key : ∀ i, i < l.length → ((rowN l i &&& X = X) ↔ (comN l X).testBit i = true) := fun i hi => by
    rw [comN_bit hl hX i]
    constructor
    · intro h
      refine ⟨hi, fun u hu => rowN_symm hg hi (bit_lt hX hu) ?_⟩
      rw [← h, Nat.testBit_and, Bool.and_eq_true] at hu
      exact hu.1
    · rintro ⟨-, h⟩
      refine eq_of_bits fun u => ?_
      rw [Nat.testBit_and, Bool.and_eq_true]
      exact ⟨fun h => h.2, fun hu => ⟨rowN_symm hg (bit_lt hX hu) hi (h u hu), hu⟩⟩
  rw [Bool.eq_iff_iff, beq_iff_eq]
  unfold wholeB
  rw [List.all_eq_true]
  constructor
  · intro h
    refine eq_of_bits fun i => ?_
    rw [Nat.zero_testBit]
    constructor
    · intro hi
      have hil : i < l.length := ((comN_bit hl hX i).1 hi).1
      have h1 := h i (List.mem_range.2 hil)
      rw [com_out hg hl hX hi, Bool.false_or, bne_iff_ne] at h1
      exact absurd ((key i hil).2 hi) h1
    · intro h; cases h
  · intro h i hi
    have hil := List.mem_range.1 hi
    rw [Bool.or_eq_true, bne_iff_ne]
    right
    intro h1
    have := (key i hil).1 h1
    rw [h, Nat.zero_testBit] at this
    cases this

theorem max_zero {n : Int} {l : List Int} (hg : IsG n l) : maxB n l 0 = false := by
  have hl : l.length ≤ 7 := by have := hg.2.1; have := hg.2.2.1; omega
  have h1 : 0 < l.length := by have := hg.1; have := hg.2.2.1; omega
  unfold maxB
  have : (comN l 0).testBit 0 = true := (comN_bit hl (Nat.pow_pos (by decide)) 0).2 ⟨h1, fun u hu => by simp at hu⟩
  have h2 : ¬ comN l 0 = 0 := fun h => by rw [h] at this; simp at this
  simp [h2]

set_option maxHeartbeats 2000000 in
set_option maxRecDepth 100000 in
theorem specMax (n : Int) (v : Value) (l : List Int) (w : World) (h : Ints w v l) :
    Calls Try.prog 48 #[.agg #[.int .i64 n, v]] w (GetsI w.heap.size w (famR n l (maxB n l))) := by
  obtain ⟨a, cap, rfl, -, -⟩ := h.form
  obtain ⟨i0, hi, hi0, hi1, hi2⟩ := info_parts infoInt
  have HA := argG' (T := 27) (n := n) h
  clear h
  by_cases hg : IsG n l
  · have HG := Lib.hid hg
    have hn1 := hg.1
    have hn7 := hg.2.1
    obtain ⟨F, hF⟩ : ∃ F, F = 2 ^ l.length := ⟨_, rfl⟩
    have h0 : maxB n l 0 = false := max_zero hg
    have HFF := Lib.hid hF
    have HLN := Lib.hid hg.2.2.1
    obtain ⟨N, eN, hN0⟩ : ∃ N, (2 : Int) ^ n.toNat = N ∧ N = (F : Int) := ⟨_, rfl, by rw [hF]; exact (full_cast hg).2.2.2.1⟩
    have hF2 : F ≤ 128 := by rw [hF]; exact (full_cast hg).2.1
    have hF1 : 0 < F := by rw [hF]; exact (full_cast hg).2.2.1
    have HN := Lib.hid (show famR n l (maxB n l) = famL (maxB n l) F by unfold famR; rw [if_pos hg, hF])
    have HZ := Lib.hid (show famL (maxB n l) 1 = [] by simp [famL, h0])
    subst hN0
    have q6 : IntKind.i64.wrap (1 * (F : Int)) = (F : Int) := IntWalk.i64_in _ (by omega) |>.trans (by omega)
    clear hg hF h0
    go_enter Try.func48, Try.ntmps48
    go_wp2
    go_loopw [3, 4] (fun s i wr => ∃ k : Nat, 1 ≤ k ∧ k ≤ F ∧ i = .int .i64 k ∧ OwnI (w.heap.size + 1) wr s (famL (maxB n l) k) ∧ Below (w.heap.size + 1) (w.alloc (.cells #[.int .i64 n, .slice a l.length cap] 27)) wr) (fun _ i _ => F - (intOf i).toNat)
    case atStart =>
      refine ⟨1, by omega, by omega, rfl, ?_, (Below.refl _ _).alloc (by simp) _⟩
      have := OwnI.lit0 (w.alloc (.cells #[.int .i64 n, .slice a l.length cap] 27)) (w.heap.size + 1) (by simp)
      rw [HZ.out]
      simpa using this
    case round =>
      obtain ⟨k, hk0, hk, rfl, ho, hbel⟩ := hrel
      obtain ⟨c0, c1, cI, cB, hz⟩ := HA.out _ hbel
      have HO := Lib.hid ho
      have HBL := Lib.hid hbel
      have HCI := Lib.hid cI
      have HCB := Lib.hid cB
      clear ho hbel cI cB
      go_wp2_with fail
      refine (specIsG_any n _ l _ HCI.out).mono ?_
      rintro e wa ⟨r, rfl, hr, hb⟩
      obtain rfl : r = true := hr.2 HG.out
      have HO2 := Lib.hid (HO.out.on hb)
      have HB2 := Lib.hid (HBL.out.trans (hb.mono hz))
      clear hb hr c0 c1 hz HCI HCB
      obtain ⟨c0, c1, cI, cB, hz⟩ := HA.out _ HB2.out
      have HCI := Lib.hid cI
      have HCB2 := Lib.hid cB
      clear cI cB
      by_cases hlt : k < F
      · have HS := Lib.hid (famL_succ (maxB n l) k)
        have HL := Lib.hid (famL_length (maxB n l) k)
        go_wp2_with fail
        refine ((specClique n _ l k _ HCI.out).mono fun _ _ h => h.dec).mono ?_
        rintro e wb ⟨rfl, hb⟩
        have HO3 := Lib.hid (HO2.out.on hb)
        have HB3 := Lib.hid (HB2.out.trans (hb.mono hz))
        clear hb c0 c1 hz
        obtain ⟨-, -, -, -, hz⟩ := HA.out _ HB3.out
        by_cases hs : CliqueS n l k
        · have d1 : decide (CliqueS n l k) = true := by simp [hs]
          rw [d1]
          have HKC := Lib.hid hs
          have hk7 : k < 128 := by omega
          have HKF := Lib.hid (show k < 2 ^ l.length by rw [← HFF.out]; exact hlt)
          clear hs d1
          obtain ⟨w3, hw3⟩ : ∃ w3, w3 = wb := ⟨_, rfl⟩
          rw [← hw3] at HO3 HB3 hz ⊢
          clear hw3
          go_wp2
          go_loopw [5, 6] (fun s i wr => ∃ j : Nat, j ≤ l.length ∧ i = .int .i64 j ∧ s = .bool (wholeB l k j) ∧ Below w3.heap.size w3 wr) (fun _ i _ => l.length - (intOf i).toNat)
          case atStart => exact ⟨0, by omega, rfl, rfl, Below.refl _ _⟩
          case round =>
            obtain ⟨j, hj, rfl, rfl, hbel⟩ := hrel
            obtain ⟨c0, c1, cI, cB, hz'⟩ := HA.out _ (HB3.out.trans (hbel.mono hz))
            have HBJ := Lib.hid hbel
            clear hbel cB hz'
            by_cases hjl : j < l.length
            · obtain ⟨b, off, cap', hv, _, hmx, hb, hcell⟩ := cI.pos (by omega)
              simp only [Value.slice.injEq] at hv
              obtain ⟨rfl, -, rfl⟩ := hv
              obtain ⟨hZ2, hZ⟩ := HG.out.row_lt j hjl
              have hZ7 : rowN l j < 128 := by have := two_le _ (show l.length ≤ 7 by have := HLN.out; omega); omega
              obtain ⟨Z, hZ'⟩ : ∃ Z, Z = rowN l j := ⟨_, rfl⟩
              have d1 := hcell j hjl
              rw [hZ, ← hZ'] at d1
              rw [← hZ'] at hZ7
              obtain ⟨t, ht⟩ : ∃ t, t = bitAt (k : Int) j := ⟨_, rfl⟩
              have e1 : bits .and .i64 ((k : Int) / 2 ^ j) 1 = t := by rw [ht]; exact and_one_bit (k : Int) j
              have E1 := Lib.hid e1
              have z1 : t = 0 ∨ t = 1 := by rw [ht]; exact bitAt_two _ _
              have e2 := (bits_nat Z k hZ7 hk7).1
              obtain ⟨U, hU⟩ : ∃ U, U = Z &&& k := ⟨_, rfl⟩
              rw [← hU] at e2
              have HT := Lib.hid ht
              have HU := Lib.hid (show U = rowN l j &&& k by rw [hU, hZ'])
              have hjn : (j : Int) < n := by have := HLN.out; omega
              obtain ⟨P, eP, hP1, hP2⟩ : ∃ P, (2 : Int) ^ j = P ∧ 1 ≤ P ∧ P ≤ 128 := ⟨_, rfl, (shl_one' j (by omega)).2.2.2.2, (shl_one' j (by omega)).2.2.2.1⟩
              have HWS := Lib.hid (wholeB_succ l k j)
              obtain ⟨B, hB⟩ : ∃ B, B = wholeB l k j := ⟨_, rfl⟩
              rw [← hB] at HWS ⊢
              unfold maxLen at hmx
              clear hcell hZ hZ' hZ2 ht hU cI hB
              have e1' : bits .and .i64 ((k : Int) / P) 1 = t := by rw [← eP]; exact E1.out
              cases B with
              | false =>
                have HW2 := Lib.hid (show wholeB l k (j + 1) = false by rw [HWS.out]; rfl)
                go_wp2
                go_roundw
                case rel => exact ⟨j + 1, by omega, by go_num, by rw [HW2.out], HBJ.out⟩
                case measure => simp [intOf]; omega
              | true =>
                rcases z1 with rfl | rfl
                · have hbf : k.testBit j = false := by
                    cases hh : k.testBit j
                    · rfl
                    · have := (bitAt_nat k j).2 hh
                      rw [← HT.out] at this
                      cases this
                  by_cases hu0 : U = k
                  · have HW2 := Lib.hid (show wholeB l k (j + 1) = false by rw [HWS.out, ← HU.out, hbf, hu0]; simp)
                    have q1 : ((U : Int) == (k : Int)) = true := by simp [hu0]
                    have q2 : ((U : Int) != (k : Int)) = false := by simp [hu0]
                    have q3 : ((0 : Int) == 1) = false := by decide
                    have H0 := Lib.hid hu0
                    clear hu0 hbf
                    go_wp2
                    go_roundw
                    case rel => exact ⟨j + 1, by omega, by go_num, by rw [HW2.out], HBJ.out⟩
                    case measure => simp [intOf]; omega
                  · have HW2 := Lib.hid (show wholeB l k (j + 1) = true by rw [HWS.out, ← HU.out, hbf]; simp [hu0])
                    have q1 : ((U : Int) == (k : Int)) = false := by rw [beq_eq_false_iff_ne]; omega
                    have q2 : ((U : Int) != (k : Int)) = true := by rw [bne_iff_ne]; omega
                    have H0 := Lib.hid hu0
                    clear hu0 hbf
                    go_wp2
                    go_roundw
                    case rel => exact ⟨j + 1, by omega, by go_num, by rw [HW2.out], HBJ.out⟩
                    case measure => simp [intOf]; omega
                · have HW2 := Lib.hid (show wholeB l k (j + 1) = true by rw [HWS.out, (bitAt_nat k j).1 HT.out.symm]; rfl)
                  go_wp2
                  go_roundw
                  case rel => exact ⟨j + 1, by omega, by go_num, by rw [HW2.out], HBJ.out⟩
                  case measure => simp [intOf]; omega
            · obtain rfl : j = l.length := by omega
              have hjx : decide (((l.length : Nat) : Int) < n) = false := decide_eq_false (by have := HLN.out; omega)
              have HO5 := Lib.hid (HO3.out.on HBJ.out)
              have HB5 := Lib.hid (HB3.out.trans (HBJ.out.mono hz))
              have hz5 := Nat.le_trans hz HBJ.out.size
              have HWI := Lib.hid (whole_is HG.out HKF.out)
              obtain ⟨B, hB⟩ : ∃ B, B = wholeB l k l.length := ⟨_, rfl⟩
              rw [← hB] at HWI ⊢
              clear hB cI
              cases B with
              | true =>
                have HT := Lib.hid (show famL (maxB n l) (k + 1) = famL (maxB n l) k ++ [(k : Int)] by rw [HS.out]; unfold maxB; rw [← HWI.out]; simp [HKC.out])
                go_wp2_with (at_builtin; refine wpList_append_int rfl (.tmp 49) (.tmp 51) 22 rfl (w.heap.size + 1) i0 Try.underlying22 hi hi0 hi1 hi2 _ _ rfl HO5.out (k : Int) (by omega) (by omega) rfl (by have := HL.out; omega) hz5 ?_)
                intro v' w4 ho4 hg4 hv4
                have HO4 := Lib.hid ho4
                have HB4 := Lib.hid ((HB5.out.alloc hz5 (.cells #[.int .i64 (k : Int)] 3)).grown hg4 (by simp; omega) (fun k hk => (HO5.out.lt k hk).1))
                clear ho4 hg4
                go_wp2
                go_roundw
                case rel => exact ⟨k + 1, by omega, by omega, by go_num, by rw [HT.out]; exact HO4.out, HB4.out⟩
                case measure => simp [intOf]; omega
              | false =>
                have HT := Lib.hid (show famL (maxB n l) (k + 1) = famL (maxB n l) k by rw [HS.out]; unfold maxB; rw [← HWI.out]; simp)
                go_wp2
                go_roundw
                case rel => exact ⟨k + 1, by omega, by omega, by go_num, by rw [HT.out]; exact HO5.out, HB5.out⟩
                case measure => simp [intOf]; omega
        · have HT := Lib.hid (show famL (maxB n l) (k + 1) = famL (maxB n l) k by rw [HS.out]; simp [maxB, hs])
          have d1 : decide (CliqueS n l k) = false := by simp [hs]
          rw [d1]
          clear hs d1
          go_wp2
          go_roundw
          case rel => exact ⟨k + 1, by omega, by omega, by go_num, by rw [HT.out]; exact HO3.out, HB3.out⟩
          case measure => simp [intOf]; omega
      · obtain rfl : k = F := by omega
        go_wp2
        go_ret
        exact ⟨_, rfl, by rw [HN.out]; exact HO2.out.mono (by omega), HCB2.out⟩
  · have HNO := Lib.hid hg
    have HN := Lib.hid (show famR n l (maxB n l) = [] by unfold famR; rw [if_neg hg])
    clear hg
    go_enter Try.func48, Try.ntmps48
    go_wp2
    go_loopw [3, 4] (fun s i wr => i = .int .i64 1 ∧ s = .slice (some ⟨w.heap.size + 1, 0, none⟩) 0 0 ∧ OwnI (w.heap.size + 1) wr (.slice (some ⟨w.heap.size + 1, 0, none⟩) 0 0) [] ∧ Below (w.heap.size + 1) (w.alloc (.cells #[.int .i64 n, .slice a l.length cap] 27)) wr) (fun _ _ _ => 0)
    case atStart =>
      refine ⟨rfl, by simp, ?_, (Below.refl _ _).alloc (by simp) _⟩
      have := OwnI.lit0 (w.alloc (.cells #[.int .i64 n, .slice a l.length cap] 27)) (w.heap.size + 1) (by simp)
      simpa using this
    case round =>
      obtain ⟨rfl, rfl, ho, hbel⟩ := hrel
      obtain ⟨c0, c1, cI, cB, hz⟩ := HA.out _ hbel
      have HO := Lib.hid ho
      have HCI := Lib.hid cI
      have HCB := Lib.hid cB
      clear ho hbel cI cB
      go_wp2_with fail
      refine (specIsG_any n _ l _ HCI.out).mono ?_
      rintro e wa ⟨r, rfl, hr, hb⟩
      obtain rfl : r = false := by
        cases r with
        | false => rfl
        | true => exact absurd (hr.1 rfl) HNO.out
      have HO2 := Lib.hid (HO.out.on hb)
      have HCB2 := Lib.hid (HCB.out.trans (hb.mono HCB.out.size))
      clear hb hr
      go_wp2
      go_ret
      exact ⟨_, rfl, by rw [HN.out]; exact HO2.out.mono (by omega), HCB2.out⟩


end Go.Proofs.Ytpifgmmmmhenmab
