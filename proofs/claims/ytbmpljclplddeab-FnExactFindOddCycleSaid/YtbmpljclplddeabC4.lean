/- FindOddCycle. -/
import Derived.Test.YtbmpljclplddeabC3
import Derived.Test.YtbmpljclplddeabJ3
import Derived.Test.YtbmpljclplddeabP6
import Derived.Deep.RegionHeld3
namespace Go.Proofs.Ytbmpljclplddeab
set_option linter.unusedVariables false
set_option linter.unusedSimpArgs false
open Go.RowKit

theorem holeR_len (n : Int) (lg : List Int) (d : Nat) : ∀ (f N : Nat), (outL (holeR n lg d f N)).length ≤ 7
  | 0, _ => by simp [holeR, outL]
  | f + 1, N => by
    have h := fwp_len n lg (holeP N) (N : Int)
    unfold holeR
    cases hF : fwpR n lg (holeP N) (N : Int) with
    | some y => rw [hF] at h; exact h
    | none => exact holeR_len n lg d f (N + d)

theorem fwp_oddS {n : Int} {lg : List Int} (hg : IsG n lg) {N : Nat} (h3 : 3 ≤ N) (ho : N % 2 = 1) (hmin : ∀ l', OddP n lg l' → N ≤ l'.length) (hn : (N : Int) ≤ n) : fwpR n lg (holeP N) (N : Int) = srchS lg.length (fitO lg) (oddT n lg) N [] := by
  rw [search_odd, all_odd N h3 ho hmin]
  unfold fwpR
  rw [if_pos ⟨hg, by omega, hn⟩]
  rfl

theorem odd_next {n : Int} {lg : List Int} {N : Nat} (ho : N % 2 = 1) (hmin : ∀ l', OddP n lg l' → N ≤ l'.length) (hA : srchS lg.length (fitO lg) (oddT n lg) N [] = none) : ∀ l', OddP n lg l' → N + 2 ≤ l'.length := fun l' hl' => by
  rw [search_odd] at hA
  have h1 := hmin l' hl'
  have h2 : l'.length ≠ N := fun he => by
    have := allS_no N [] hA l' he fun x hx => by
      obtain ⟨i, hi, rfl⟩ := List.mem_iff_getElem.1 hx
      obtain ⟨a, b, -⟩ := hl'.1.at hi
      exact ⟨kl l' i, b, by rw [← a]; simp [nth, hi]⟩
    rw [List.nil_append] at this
    unfold oddT at this
    rw [decide_eq_true hl'] at this
    cases this
  have := hl'.2.2.1
  omega

set_option maxHeartbeats 8000000 in
set_option maxRecDepth 100000 in
theorem implOddCyc (n : Int) (v : Value) (lg : List Int) (w : World) (h : Ints w v lg) :
    Calls Try.prog 40 #[.agg #[.int .i64 n, v]] w (GetsLB w.heap.size w (holeR n lg 2 3 3)) := by
  obtain ⟨a, cap, rfl, -, -⟩ := h.form
  have HI := Lib.hid h
  clear h
  have HA := argG' (T := 33) (n := n) HI.out
  obtain ⟨w0, hw0⟩ : ∃ w0, w0 = (w.alloc (.cells #[.int .i64 n, .slice a lg.length cap] 33)) := ⟨_, rfl⟩
  have HST : Hid (∀ W, Below w0.heap.size w0 W → W.cell? ⟨w.heap.size, 0, none⟩ = some (.int .i64 n) ∧ W.cell? ⟨w.heap.size, 1, none⟩ = some (.slice a lg.length cap) ∧ Ints W (.slice a lg.length cap) lg ∧ Below w.heap.size w W ∧ Below w0.heap.size w0 W) := fun W hW => by
    obtain ⟨c0, c1, cI, cB, -⟩ := HA.out W (by rw [← hw0]; exact hW.mono (by rw [hw0]; simp))
    exact ⟨c0, c1, cI, cB, hW⟩
  obtain ⟨R, hR⟩ : ∃ R, R = holeR n lg 2 3 3 := ⟨_, rfl⟩
  have HR := Lib.hid hR
  rw [← hR]
  clear hR
  go_enter Try.func40, Try.ntmps40
  go_wp2
  rw [← hw0]
  clear hw0
  go_loopw [4] (fun x wr => ∃ N f : Nat, x = .int .i64 N ∧ N + 2 * f = 9 ∧ Hid (R = holeR n lg 2 f N) ∧ Below w0.heap.size w0 wr) (fun x _ => 9 - (intOf x).toNat)
  case atStart => exact ⟨3, 3, rfl, by omega, HR.out, Below.refl _ _⟩
  case round =>
    clear HR
    obtain ⟨N, f, rfl, hNf, HR, hbel⟩ := hrel
    have HBL := Lib.hid hbel
    clear hbel
    cases f with
    | zero =>
      have d0 : decide ((N : Int) ≤ 7) = false := decide_eq_false (by omega)
      have HN := Lib.hid (show R = none by rw [HR.out]; rfl)
      have HW := Lib.hid (HST.out _ HBL.out).2.2.2.1
      go_wp2
      go_ret2
      exact ⟨_, by rw [HN.out]; rfl, by rw [HN.out]; exact OwnI.nil0 _ _, HW.out⟩
    | succ f =>
      have d0 : decide ((N : Int) ≤ 7) = true := decide_eq_true (by omega)
      have hN7 : N ≤ 1048576 := by omega
      have HS := Lib.hid (show R = match fwpR n lg (holeP N) (N : Int) with | some y => some y | none => holeR n lg 2 f (N + 2) from HR.out)
      go_wp2
      go_region_held3 (fun W => W.cell? ⟨w.heap.size, 0, none⟩ = some (.int .i64 n) ∧ W.cell? ⟨w.heap.size, 1, none⟩ = some (.slice a lg.length cap) ∧ Ints W (.slice a lg.length cap) lg ∧ Below w.heap.size w W ∧ Below w0.heap.size w0 W)
        (first | exact HST.out _ HBL.out.drew | exact HST.out _ HBL.out | (go_split_ands; exact HST.out _ (btrans (by assumption) hb)))
        (first
          | (go_at_call 76; go_split_ands; refine (holePattern_is N _).mono ?_; rintro e wz ⟨q, rfl, hq, hq2, hb⟩)
          | (go_at_call 79; go_split_ands; refine (firstWithPattern_any 121 #[.pointer (some ⟨q, 0, none⟩)] (holeP N) enters_hole n _ lg _ (by assumption) (N : Int) (fun M hM _ => by obtain rfl : N = M := (by omega); exact rule_hole N _ hN7 q (by assumption) (by assumption))).mono ?_; rintro e wy ⟨vy, rfl, ho, hb⟩; replace ho := ho.mono (B' := w.heap.size) (Below.size (by assumption))))
      go_split_ands
      have HW := Lib.hid (show Below w.heap.size w wy by assumption)
      have HW0 := Lib.hid (show Below w0.heap.size w0 wy by assumption)
      have HO := Lib.hid ho
      clear ho
      cases hF : fwpR n lg (holeP N) (N : Int) with
      | some y =>
        have b0 : outS (some y) = true := rfl
        rw [hF] at HO
        have HN := Lib.hid (show R = some y by rw [HS.out, hF])
        clear hF
        go_wp2
        go_ret2
        exact ⟨_, by rw [HN.out]; rfl, by rw [HN.out]; exact HO.out, HW.out⟩
      | none =>
        have b0 : outS (none : Option (List Int)) = false := rfl
        have HN := Lib.hid (show R = holeR n lg 2 f (N + 2) by rw [HS.out, hF])
        clear hF
        go_wp2
        go_roundw
        case rel => exact ⟨N + 2, f, by go_num, by omega, HN.out, HW0.out⟩
        case measure => simp [intOf]; omega

set_option maxHeartbeats 8000000 in
set_option maxRecDepth 100000 in
theorem specOddCyc (n : Int) (v : Value) (lg : List Int) (w : World) (h : Ints w v lg) :
    Calls Try.prog 39 #[.agg #[.int .i64 n, v]] w (GetsLB w.heap.size w (holeR n lg 2 3 3)) := by
  obtain ⟨a, cap, rfl, -, -⟩ := h.form
  have HI := Lib.hid h
  clear h
  have HA := argG' (T := 33) (n := n) HI.out
  obtain ⟨R, hR⟩ : ∃ R, R = holeR n lg 2 3 3 := ⟨_, rfl⟩
  have HR := Lib.hid hR
  rw [← hR]
  clear hR
  go_enter Try.func39, Try.ntmps39
  go_wp2
  go_loopw [4] (fun x wr => ∃ N f : Nat, x = .int .i64 N ∧ N + 2 * f = 9 ∧ 3 ≤ N ∧ Hid (R = holeR n lg 2 f N) ∧ Hid (∀ l', OddP n lg l' → N ≤ l'.length) ∧ Below (w.heap.size + 1) (w.alloc (.cells #[.int .i64 n, .slice a lg.length cap] 33)) wr) (fun x _ => 9 - (intOf x).toNat)
  case atStart => exact ⟨3, 3, rfl, by omega, by omega, HR.out, fun l' h => h.2.1, Below.refl _ _⟩
  case round =>
    clear HR
    obtain ⟨N, f, rfl, hNf, hN0, HR, HMI, hbel⟩ := hrel
    have HBL := Lib.hid hbel
    obtain ⟨c0, c1, cI, cB, hz⟩ := HA.out _ hbel
    have HI1 := Lib.hid cI
    clear hbel cI cB hz
    by_cases hNn : (N : Int) ≤ n
    · have d0 : decide ((N : Int) ≤ n) = true := decide_eq_true hNn
      go_wp2_with fail
      refine (specIsG_any n _ lg _ HI1.out).mono ?_
      rintro e w1 ⟨r, rfl, hr, hb⟩
      have HB1 := Lib.hid (HBL.out.trans (hb.mono (by have := HBL.out.size; simpa using this)))
      have HRR := Lib.hid hr
      clear hb hr c0 c1 HI1
      cases r with
      | false =>
        have HN := Lib.hid (show R = none by rw [HR.out]; exact holeR_none n lg 2 f N (fun h => absurd (HRR.out.2 h.1) (by decide)))
        obtain ⟨-, -, -, cB, -⟩ := HA.out _ HB1.out
        have hzw : w.heap.size ≤ w1.heap.size := cB.size
        have HCB := Lib.hid cB
        have HE := Lib.hid (OwnI.lit0 w1 w.heap.size hzw)
        clear cB
        go_wp2
        go_ret2
        exact ⟨_, by rw [HN.out]; rfl, by rw [HN.out]; exact HE.out, HCB.out.alloc hzw _⟩
      | true =>
        have HG := Lib.hid (HRR.out.1 (by first | rfl | trivial))
        have hN7 : N ≤ 7 := by have := HG.out.2.1; omega
        obtain ⟨f', rfl⟩ : ∃ f', f = f' + 1 := ⟨f - 1, by omega⟩
        have HS := Lib.hid (show R = match fwpR n lg (holeP N) (N : Int) with | some y => some y | none => holeR n lg 2 f' (N + 2) from HR.out)
        have HQ := Lib.hid (fwp_oddS HG.out (by omega) (by omega) HMI.out hNn)
        obtain ⟨c0, c1, cI, cB, hz⟩ := HA.out _ HB1.out
        have hzw : w.heap.size + 1 ≤ w1.heap.size := by have := HB1.out.size; simpa using this
        have hzw' : w.heap.size ≤ w1.heap.size := by omega
        have hzB : w.heap.size ≤ (w1.alloc (.cells #[] 3)).heap.size := by simp; omega
        have HE := Lib.hid (OwnI.lit0 w1 w.heap.size hzw')
        have HIE := Lib.hid (cI.alloc (.cells #[] 3))
        clear cI cB hz
        go_wp2_with fail
        refine (l20Search_is n _ lg N hN7 HG.out w.heap.size N [] _ _ HIE.out HE.out hzB (by simp) (fun i hi => by simp at hi)).mono ?_
        rintro e w3 ⟨v3, l3, rfl, ho, hor, hb⟩
        have HB3 := Lib.hid ((HB1.out.alloc hzw (.cells #[] 3)).trans (hb.mono (by simp; omega)))
        rw [← HQ.out] at hor ⊢
        have HO := Lib.hid ho
        have HOR := Lib.hid hor
        clear ho hor hb hzB HIE HE c0 c1
        cases hF : fwpR n lg (holeP N) (N : Int) with
        | some y =>
          have b0 : outS (some y) = true := rfl
          have HN := Lib.hid (show R = some y by rw [HS.out, hF])
          have HL3 := Lib.hid (show l3 = y by
            rcases HOR.out with ⟨-, h⟩ | h
            · rw [hF] at h; cases h
            · rw [h, hF]; rfl)
          obtain ⟨-, -, -, cB, -⟩ := HA.out _ HB3.out
          have HCB := Lib.hid cB
          clear hF HOR cB
          go_wp2
          go_ret2
          exact ⟨_, by rw [HN.out]; rfl, by rw [HN.out]; show OwnI w.heap.size w3 v3 y; rw [← HL3.out]; exact HO.out, HCB.out⟩
        | none =>
          have b0 : outS (none : Option (List Int)) = false := rfl
          have HN := Lib.hid (show R = holeR n lg 2 f' (N + 2) by rw [HS.out, hF])
          have HMN := Lib.hid (odd_next (by omega) HMI.out (HQ.out.symm.trans hF))
          clear hF HOR
          obtain ⟨c0, c1, -, -, -⟩ := HA.out _ HB3.out
          go_wp2
          go_roundw
          case rel => exact ⟨N + 2, f', by go_num, by omega, by omega, HN.out, HMN.out, HB3.out⟩
          case measure => simp [intOf]; omega
    · have d0 : decide ((N : Int) ≤ n) = false := decide_eq_false hNn
      have HN := Lib.hid (show R = none by rw [HR.out]; exact holeR_none n lg 2 f N (fun h => hNn h.2))
      obtain ⟨-, -, -, cB, -⟩ := HA.out _ HBL.out
      have hzw : w.heap.size ≤ wr.heap.size := cB.size
      have HCB := Lib.hid cB
      have HE := Lib.hid (OwnI.lit0 wr w.heap.size hzw)
      clear cB
      go_wp2
      go_ret2
      exact ⟨_, by rw [HN.out]; rfl, by rw [HN.out]; exact HE.out, HCB.out.alloc hzw _⟩

end Go.Proofs.Ytbmpljclplddeab
