/- The first list with any of some patterns. -/
import Derived.Test.YtbmpljclplddeabW2
import Derived.Test.YtbmpljclplddeabJ3
import Derived.Test.YtbmpljclplddeabBx
import Derived.Lib.SliceRun
import Derived.WalkSpells
namespace Go.Proofs.Ytbmpljclplddeab
set_option linter.unusedVariables false
set_option linter.unusedSimpArgs false
open Go.RowKit

set_option maxHeartbeats 4000000 in
set_option maxRecDepth 100000 in
theorem fwAny (n : Int) (v : Value) (lg : List Int) (w : World) (h : Ints w v lg) (k : Nat) (hk : k ≤ 7) (b off cap : Nat) (fv : Nat → FuncId) (cp : Nat → Array Value) (pt : Nat → Nat → Nat → Bool) (hb : b < w.heap.size)
    (hc : ∀ j, j < k → w.cell? ⟨b, off + j, none⟩ = some (.func (.func (fv j)) #[] (cp j))) (he : ∀ j, j < k → Enters (fv j)) (hr : ∀ j, j < k → ∀ W, Below w.heap.size w W → Rule (fv j) (cp j) 4 (pt j) W) :
    Calls Try.prog 74 #[.agg #[.int .i64 n, v], .int .i64 4, .slice (some ⟨b, off, none⟩) k cap] w (GetsLB w.heap.size w (combN (fun i => fwpR n lg (pt i) 4) k)) := by
  obtain ⟨ad, capg, rfl, -, -⟩ := h.form
  have HI := Lib.hid h
  have HC := Lib.hid hc
  have HE := Lib.hid he
  have HRU := Lib.hid hr
  clear h hc he hr
  have F0 := Lib.hid (show Below w.heap.size w (w.alloc (.cells #[.int .i64 n, .slice ad lg.length capg] 33)) from (Below.refl _ w).alloc (Nat.le_refl _) _)
  have A0 := Lib.hid (show Box w.heap.size [.int .i64 n, .slice ad lg.length capg] (w.alloc (.cells #[.int .i64 n, .slice ad lg.length capg] 33)) from Box.new w _ _)
  have Z0 := Lib.hid (show w.heap.size ≤ (w.alloc (.cells #[.int .i64 n, .slice ad lg.length capg] 33)).heap.size by simp)
  obtain ⟨G, hG⟩ : ∃ G, G = fun i => fwpR n lg (pt i) 4 := ⟨_, rfl⟩
  have HG : Hid (∀ i, G i = fwpR n lg (pt i) 4) := fun i => by rw [hG]
  have HGL : Hid (∀ i y, G i = some y → y.length = 4) := fun i y h => fwp_four_len (by rw [← HG.out]; exact h)
  have HCL : Hid (∀ i y, combN G i = some y → y.length = 4) := fun i y h => comb_len HGL.out i y h
  rw [← hG]
  clear hG
  have qT : ∀ (w : World) (a : Option Addr) (n c n' c' : Nat), (binOp .eql 22 (.slice a n c) (.slice none n' c')).run Try.prog w = .ok (.bool a.isNone) w := fun w a n c n' c' => Lib.run_eql_slice_nil w _ _ a n c n' c' Try.underlying22
  have qN : ∀ (w : World) (a : Option Addr) (n c n' c' : Nat), (binOp .neq 22 (.slice a n c) (.slice none n' c')).run Try.prog w = .ok (.bool (!a.isNone)) w := fun w a n c n' c' => run_neq_slice_nil_any w _ _ a n c n' c' Try.underlying22
  have i0 : (none : Option Addr).isNone = true := rfl
  have i1 : ∀ a : Addr, (some a).isNone = false := fun _ => rfl
  go_enter Try.func74, Try.ntmps74
  go_wp2
  obtain ⟨W0, hW0⟩ : ∃ W0, W0 = w.alloc (.cells #[.int .i64 n, .slice ad lg.length capg] 33) := ⟨_, rfl⟩
  rw [← hW0]
  rw [← hW0] at F0 A0 Z0
  clear hW0
  go_loopw [8, 15] (fun s x wr => ∃ (j : Nat), j ≤ k ∧ x = .int .i64 j ∧ Below W0.heap.size W0 wr ∧ Hid (OwnI w.heap.size wr s (outL (combN G j)) ∧ (combN G j = none → s = .slice none 0 0))) (fun _ x _ => k - (intOf x).toNat)
  case atStart => exact ⟨0, by omega, rfl, Below.refl _ _, OwnI.nil0 _ _, fun _ => rfl⟩
  case round =>
    obtain ⟨j, hj, rfl, hbel, HO⟩ := hrel
    have HW := Lib.hid (F0.out.trans (hbel.mono Z0.out))
    have HBL := Lib.hid hbel
    by_cases hlt : j < k
    · have x0 : wr.cell? ⟨w.heap.size, 0, none⟩ = some (.int .i64 n) := (A0.out.on hbel).1 0 _ rfl
      have x1 : wr.cell? ⟨w.heap.size, 1, none⟩ = some (.slice ad lg.length capg) := (A0.out.on hbel).1 1 _ rfl
      have c1 := (HW.out.cell (p := ⟨b, off + j, none⟩) hb).trans (HC.out j hlt)
      obtain ⟨f, hf⟩ : ∃ f, f = fv j := ⟨_, rfl⟩
      obtain ⟨c, hcp⟩ : ∃ c, c = cp j := ⟨_, rfl⟩
      rw [← hf, ← hcp] at c1
      have HEN := Lib.hid (HE.out j hlt)
      have HRJ := Lib.hid (HRU.out j hlt)
      rw [← hf] at HEN
      rw [← hf, ← hcp] at HRJ
      clear hf hcp hbel
      go_wp2_with fail
      refine (firstWithPattern_any f c (pt j) HEN.out n _ lg _ (HI.out.on HW.out) 4 (fun N hN _ => by (have hN4 : N = 4 := (by omega)); rw [hN4]; exact HRJ.out _ HW.out)).mono ?_
      rintro e w2 ⟨v1, rfl, ho, hb2⟩
      rw [← HG.out] at ho ⊢
      have HB2 := Lib.hid (HBL.out.trans (hb2.mono HBL.out.size))
      have HO2 := Lib.hid (HO.out.1.on hb2)
      have HV := Lib.hid ho
      have hsz := Lib.hid HW.out.size
      clear ho hb2 x0 x1 c1
      cases hF : G j with
      | none =>
        have HN : Hid (combN G (j + 1) = combN G j) := by
          show combS (combN G j) (G j) = _
          rw [hF]; rfl
        rw [show outS (none : Option (List Int)) = false from rfl]
        clear hF
        go_wp2
        go_roundw
        case rel => exact ⟨j + 1, by omega, by go_num, HB2.out, by rw [HN.out]; exact HO2.out, by rw [HN.out]; exact HO.out.2⟩
        case measure => simp [intOf]; omega
      | some y =>
        have HY4 := Lib.hid (HGL.out j y hF)
        rw [hF] at HV
        have HV1 := Lib.hid (show OwnI w.heap.size w2 v1 y from HV.out.mono hsz.out)
        rw [show outS (some y) = true from rfl]
        cases hR : combN G j with
        | none =>
          have HN : Hid (combN G (j + 1) = some y) := by
            show combS (combN G j) (G j) = _
            rw [hF, hR]; rfl
          obtain rfl := HO.out.2 hR
          clear hF hR HO HO2
          go_wp2
          go_roundw
          case rel => exact ⟨j + 1, by omega, by go_num, HB2.out, by rw [HN.out]; exact HV1.out, by rw [HN.out]; exact fun h => by cases h⟩
          case measure => simp [intOf]; omega
        | some x =>
          have HX4 := Lib.hid (HCL.out j x hR)
          rw [hR] at HO2
          have HX1 := Lib.hid (show OwnI w.heap.size w2 u8 x from HO2.out)
          obtain ⟨bx, offx, capx, rfl, -, -, -, -⟩ := HX1.out.ints.pos (by rw [HX4.out]; omega)
          go_wp2_with fail
          refine (slicesCmp _ _ y x _ HV1.out.ints HX1.out.ints (by rw [HY4.out, HX4.out]) (by rw [HY4.out]; omega)).mono ?_
          rintro e w3 ⟨r, rfl, hr3, hb3⟩
          have HB3 := Lib.hid (HB2.out.trans (hb3.mono HB2.out.size))
          have HV3 := Lib.hid (HV1.out.on hb3)
          have HX3 := Lib.hid (HX1.out.on hb3)
          have HL3 := Lib.hid hr3
          clear hb3 hr3
          by_cases h0 : r < 0
          · have d0 : decide (r < 0) = true := decide_eq_true h0
            have HN : Hid (combN G (j + 1) = some y) := by
              show combS (combN G j) (G j) = _
              rw [hF, hR]
              show (open Classical in if lexLt y x then some y else some x) = _
              rw [if_pos (HL3.out.1 h0)]
            clear hF hR h0 HO HO2
            go_wp2
            go_roundw
            case rel => exact ⟨j + 1, by omega, by go_num, HB3.out, by rw [HN.out]; exact HV3.out, by rw [HN.out]; exact fun h => by cases h⟩
            case measure => simp [intOf]; omega
          · have d0 : decide (r < 0) = false := decide_eq_false h0
            have HN : Hid (combN G (j + 1) = some x) := by
              show combS (combN G j) (G j) = _
              rw [hF, hR]
              show (open Classical in if lexLt y x then some y else some x) = _
              rw [if_neg (fun h => h0 (HL3.out.2 h))]
            clear hF hR h0 HO HO2
            go_wp2
            go_roundw
            case rel => exact ⟨j + 1, by omega, by go_num, HB3.out, by rw [HN.out]; exact HX3.out, by rw [HN.out]; exact fun h => by cases h⟩
            case measure => simp [intOf]; omega
    · obtain rfl : j = k := by omega
      clear hbel
      cases hR : combN G j with
      | none =>
        obtain rfl := HO.out.2 hR
        have HRR := Lib.hid hR
        clear HO hR
        go_wp2
        go_ret2
        exact ⟨_, by rw [HRR.out]; rfl, by rw [HRR.out]; exact OwnI.nil0 _ _, HW.out⟩
      | some x =>
        have HX4 := Lib.hid (HCL.out j x hR)
        rw [hR] at HO
        have HX1 := Lib.hid (show OwnI w.heap.size wr u8 x from HO.out.1)
        obtain ⟨bx, offx, capx, rfl, -, -, -, -⟩ := HX1.out.ints.pos (by rw [HX4.out]; omega)
        have HRR := Lib.hid hR
        clear HO hR
        go_wp2
        go_ret2
        exact ⟨_, by rw [HRR.out]; rfl, by rw [HRR.out]; exact HX1.out, HW.out⟩

end Go.Proofs.Ytbmpljclplddeab
