/- CutVertices, ToughnessWitness. -/
import Derived.Test.YtbgkceekkinngaaE2
import Derived.Test.YtbgkceekkinngaaV9
import Derived.Test.YtbgkceekkinngaaH3
import Derived.Deep.RegionHeld3
namespace Go.Proofs.Ytbgkceekkinngaa
set_option linter.unusedVariables false
set_option linter.unusedSimpArgs false
open Go.RowKit

/-- The vertices below k without which there are more parts. -/
def cutN (n : Int) (l : List Int) : Nat → Nat
  | 0 => 0
  | k + 1 => if plen n l (2 ^ n.toNat - 1) < plen n l (2 ^ n.toNat - 1 - ((2 ^ k : Nat) : Int)) then cutN n l k + 2 ^ k else cutN n l k

def cutR (n : Int) (l : List Int) : Int := if IsG n l then ((cutN n l l.length : Nat) : Int) else 0

theorem or_fresh' (k s : Nat) (hk : k < 7) (hs : s < 2 ^ k) : bits .or .i64 (s : Int) ((2 ^ k : Nat) : Int) = ((s + 2 ^ k : Nat) : Int) := by
  have : ∀ (k : Fin 7) (s : Fin 128), s.val < 2 ^ k.val → bits .or .i64 ((s.val : Nat) : Int) ((2 ^ k.val : Nat) : Int) = ((s.val + 2 ^ k.val : Nat) : Int) := by decide +kernel
  have h7 : (2 : Nat) ^ k ≤ 128 := two_le k (by omega)
  exact this ⟨k, hk⟩ ⟨s, by omega⟩ hs

set_option maxHeartbeats 4000000 in
set_option maxRecDepth 100000 in
theorem implCut (n : Int) (v : Value) (l : List Int) (w : World) (h : Ints w v l) :
    Calls Try.prog 39 #[.agg #[.int .i64 n, v]] w (SaysN (cutR n l) w) := by
  obtain ⟨a, cap, rfl, -, -⟩ := h.form
  have HA := argG' (T := 28) (n := n) h
  have HI := Lib.hid h
  clear h
  go_enter Try.func39, Try.ntmps39
  go_wp2_with fail
  refine (implIsG_any n _ l _ (HI.out.alloc _)).mono ?_
  rintro e w1 ⟨r, rfl, hr, hb⟩
  have HB := Lib.hid (hb.mono (B' := w.heap.size + 1) (by simp))
  have HR := Lib.hid hr
  clear hb hr
  obtain ⟨c0, c1, cI, cB, hz⟩ := HA.out _ HB.out
  have HCI := Lib.hid cI
  have HCB := Lib.hid cB
  clear cI cB
  cases r with
  | false =>
    have HN := Lib.hid (show cutR n l = 0 by unfold cutR; rw [if_neg (fun h => absurd (HR.out.2 h) (by decide))])
    go_wp2
    go_ret
    exact ⟨by rw [HN.out]; rfl, HCB.out⟩
  | true =>
    have HG := Lib.hid (HR.out.1 rfl)
    have HN := Lib.hid (show cutR n l = ((cutN n l l.length : Nat) : Int) by unfold cutR; rw [if_pos HG.out])
    have hn7 := HG.out.2.1
    have hle : (l.length : Int) ≤ n := by have := HG.out.2.2.1; omega
    have hge : n ≤ (l.length : Int) := by have := HG.out.2.2.1; omega
    obtain ⟨M, hM⟩ : ∃ M : Int, M = 2 ^ n.toNat - 1 := ⟨_, rfl⟩
    have HM := Lib.hid hM
    go_wp2_with fail
    refine (allVertices_is n _ l _ HCI.out HG.out.1 HG.out.2.1).mono ?_
    rintro e w2 ⟨rfl, hb⟩
    rw [← hM]
    have HB2 := Lib.hid (HB.out.trans (hb.mono hz))
    clear hb c0 c1 hz HCI HCB hM
    obtain ⟨c0, c1, cI, cB, hz⟩ := HA.out _ HB2.out
    clear cI cB
    go_wp2
    clear c0 c1 hz
    go_loopw [4, 5, 13] (fun s y i wr => ∃ k S : Nat, k ≤ l.length ∧ S < 2 ^ k ∧ i = .int .i64 k ∧ s = .int .i64 S ∧ Hid (S = cutN n l k) ∧ Below (w.heap.size + 1) (w.alloc (.cells #[.int .i64 n, .slice a l.length cap] 28)) wr) (fun _ _ i _ => l.length - (intOf i).toNat)
    case atStart => exact ⟨0, 0, by omega, by simp, rfl, rfl, rfl, HB2.out⟩
    case round =>
      obtain ⟨k, S, hk, hS, rfl, rfl, HS, hbel⟩ := hrel
      have HBL := Lib.hid hbel
      clear hbel
      obtain ⟨c0, c1, cI, cB, hz⟩ := HA.out _ HBL.out
      have HCB := Lib.hid cB
      have HCI := Lib.hid cI
      clear cI cB
      by_cases hlt : k < l.length
      · have hin : (k : Int) < n := by omega
        obtain ⟨P, hP⟩ : ∃ P, P = 2 ^ k := ⟨_, rfl⟩
        have eP : (2 : Int) ^ k = (P : Int) := by rw [hP]; push_cast; rfl
        have hP7 : P < 128 := by rw [hP]; exact Nat.pow_lt_pow_right (n := 7) (by omega) (by omega)
        have hPl : 2 ^ k < 2 ^ l.length := Nat.pow_lt_pow_right (by decide) hlt
        have g1 : IntKind.i64.wrap (1 * (P : Int)) = P := IntWalk.i64_in _ (by omega) |>.trans (by omega)
        have g2 : IntKind.i64.wrap (P : Int) = P := IntWalk.i64_in _ (by omega)
        have hSF : S < 128 := by have := two_le k (by omega); omega
        have g5 : IntKind.i64.wrap ((S : Int) + (P : Int)) = ((S + P : Nat) : Int) := (IntWalk.i64_in _ (by omega)).trans (by omega)
        have g6 : bits .or .i64 (S : Int) (P : Int) = ((S + P : Nat) : Int) := by rw [hP]; exact or_fresh' k S (by omega) hS
        have hfr := rest_is (isS_nat HG.out hPl)
        rw [← hP, ← HM.out] at hfr
        obtain ⟨Q, hQ⟩ : ∃ Q : Int, Q = M - (P : Int) := ⟨_, rfl⟩
        have q1 : bits .andNot .i64 M (P : Int) = Q := by rw [hQ]; exact hfr.1
        have q2 : IntKind.i64.wrap (M - (P : Int)) = Q := (IntWalk.i64_in _ (by have := hfr.2; have := HM.out; omega)).trans hQ.symm
        obtain ⟨PL, hPL⟩ : ∃ PL : Int → Nat, PL = plen n l := ⟨_, rfl⟩
        have HC : Hid (∀ (x : Int) W, Ints W (.slice a l.length cap) l → Calls Try.prog 69 #[.agg #[.int .i64 n, .slice a l.length cap], .int .i64 x] W fun e w' => ∃ ap capp, e = .returned (.slice ap (PL x) capp) ∧ Below W.heap.size W w') := fun x W hI => by rw [hPL]; exact implPlen n _ l x W hI
        have HSN := Lib.hid (show cutN n l (k + 1) = if PL M < PL Q then cutN n l k + P else cutN n l k by rw [hPL, hQ, HM.out, hP]; rfl)
        have HSP := Lib.hid (show S + P < 2 ^ (k + 1) by rw [Nat.pow_succ, ← hP]; rw [← hP] at hS; omega)
        have HS2 := Lib.hid (show S < 2 ^ (k + 1) by rw [Nat.pow_succ]; omega)
        have HST : Hid (∀ W, Below wr.heap.size wr W → W.cell? ⟨w.heap.size, 0, none⟩ = some (.int .i64 n) ∧ W.cell? ⟨w.heap.size, 1, none⟩ = some (.slice a l.length cap) ∧ Ints W (.slice a l.length cap) l ∧ Below (w.heap.size + 1) (w.alloc (.cells #[.int .i64 n, .slice a l.length cap] 28)) W ∧ Below wr.heap.size wr W) := fun W hW => by
          obtain ⟨c0, c1, cI, cB, -⟩ := HA.out W (HBL.out.trans (hW.mono hz))
          exact ⟨c0, c1, cI, HBL.out.trans (hW.mono hz), hW⟩
        obtain ⟨e0, e1, eI, eB, -⟩ := HST.out _ (Below.refl _ _)
        clear hP hPl hS hfr hPL hQ c0 c1 HCI
        by_cases hpl : PL M < PL Q
        · have d1 : decide ((PL M : Int) < (PL Q : Int)) = true := decide_eq_true (by omega)
          have d1n : decide (PL M < PL Q) = true := decide_eq_true hpl
          have HT := Lib.hid (show S + P = cutN n l (k + 1) by rw [HSN.out, if_pos hpl, ← HS.out])
          go_wp2
          go_region_held3 (fun W => W.cell? ⟨w.heap.size, 0, none⟩ = some (.int .i64 n) ∧ W.cell? ⟨w.heap.size, 1, none⟩ = some (.slice a l.length cap) ∧ Ints W (.slice a l.length cap) l ∧ Below (w.heap.size + 1) (w.alloc (.cells #[.int .i64 n, .slice a l.length cap] 28)) W ∧ Below wr.heap.size wr W)
            (first | exact HST.out _ (Below.refl _ _).drew | exact HST.out _ (Below.refl _ _) | (go_split_ands; exact HST.out _ (btrans (by assumption) hb)))
            (first | (go_at_call 69; go_split_ands; refine (HC.out _ _ (by assumption)).mono ?_; rintro e wz ⟨ap, capp, rfl, hb⟩))
          go_split_ands
          have HW := Lib.hid (show Below (w.heap.size + 1) (w.alloc (.cells #[.int .i64 n, .slice a l.length cap] 28)) wz by assumption)
          clear e0 e1 eI eB
          go_wp2
          go_roundw
          case rel => exact ⟨k + 1, S + P, by omega, HSP.out, by go_num, by first | rfl | go_num, HT.out, HW.out⟩
          case measure => simp [intOf]; omega
        · have d1 : decide ((PL M : Int) < (PL Q : Int)) = false := decide_eq_false (by omega)
          have d1n : decide (PL M < PL Q) = false := decide_eq_false hpl
          have HT := Lib.hid (show S = cutN n l (k + 1) by rw [HSN.out, if_neg hpl, ← HS.out])
          go_wp2
          go_region_held3 (fun W => W.cell? ⟨w.heap.size, 0, none⟩ = some (.int .i64 n) ∧ W.cell? ⟨w.heap.size, 1, none⟩ = some (.slice a l.length cap) ∧ Ints W (.slice a l.length cap) l ∧ Below (w.heap.size + 1) (w.alloc (.cells #[.int .i64 n, .slice a l.length cap] 28)) W ∧ Below wr.heap.size wr W)
            (first | exact HST.out _ (Below.refl _ _).drew | exact HST.out _ (Below.refl _ _) | (go_split_ands; exact HST.out _ (btrans (by assumption) hb)))
            (first | (go_at_call 69; go_split_ands; refine (HC.out _ _ (by assumption)).mono ?_; rintro e wz ⟨ap, capp, rfl, hb⟩))
          go_split_ands
          have HW := Lib.hid (show Below (w.heap.size + 1) (w.alloc (.cells #[.int .i64 n, .slice a l.length cap] 28)) wz by assumption)
          clear e0 e1 eI eB
          go_wp2
          go_roundw
          case rel => exact ⟨k + 1, S, by omega, HS2.out, by go_num, rfl, HT.out, HW.out⟩
          case measure => simp [intOf]; omega
      · obtain rfl : k = l.length := by omega
        go_wp2
        go_ret
        exact ⟨by rw [HN.out, ← HS.out]; rfl, HCB.out⟩

set_option maxHeartbeats 4000000 in
set_option maxRecDepth 100000 in
theorem specCut (n : Int) (v : Value) (l : List Int) (w : World) (h : Ints w v l) :
    Calls Try.prog 38 #[.agg #[.int .i64 n, v]] w (SaysN (cutR n l) w) := by
  obtain ⟨a, cap, rfl, -, -⟩ := h.form
  have HA := argG' (T := 28) (n := n) h
  have HI := Lib.hid h
  clear h
  by_cases hg : IsG n l
  · have HG := Lib.hid hg
    have HN := Lib.hid (show cutR n l = ((cutN n l l.length : Nat) : Int) by unfold cutR; rw [if_pos hg])
    have hn1 := hg.1
    have hn7 := hg.2.1
    have hle : (l.length : Int) ≤ n := by have := hg.2.2.1; omega
    have hge : n ≤ (l.length : Int) := by have := hg.2.2.1; omega
    obtain ⟨N, eN, hN1, hN2⟩ : ∃ N, (2 : Int) ^ n.toNat = N ∧ 1 ≤ N ∧ N ≤ 128 := ⟨_, rfl, by have := full_cast hg; omega, by have := full_cast hg; omega⟩
    obtain ⟨M, hM⟩ : ∃ M : Int, M = 2 ^ n.toNat - 1 := ⟨_, rfl⟩
    have q8 : N - 1 = M := by rw [hM, eN]
    have q6 : IntKind.i64.wrap (1 * N) = N := IntWalk.i64_in _ (by omega) |>.trans (by omega)
    have q7 : IntKind.i64.wrap (N - 1) = M := (IntWalk.i64_in _ (by omega)).trans q8
    have q9 : IntKind.i64.wrap N = N := IntWalk.i64_in _ (by omega)
    have q10 : IntKind.i64.wrap M = M := IntWalk.i64_in _ (by omega)
    have HM := Lib.hid hM
    clear hg hM
    go_enter Try.func38, Try.ntmps38
    go_wp2
    go_loopw [3, 4] (fun s i wr => ∃ k S : Nat, k ≤ l.length ∧ S < 2 ^ k ∧ i = .int .i64 k ∧ s = .int .i64 S ∧ Hid (S = cutN n l k) ∧ Below (w.heap.size + 1) (w.alloc (.cells #[.int .i64 n, .slice a l.length cap] 28)) wr) (fun _ i _ => l.length - (intOf i).toNat)
    case atStart => exact ⟨0, 0, by omega, by simp, rfl, rfl, rfl, Below.refl _ _⟩
    case round =>
      obtain ⟨k, S, hk, hS, rfl, rfl, HS, hbel⟩ := hrel
      have HBL := Lib.hid hbel
      clear hbel
      obtain ⟨c0, c1, cI, cB, hz⟩ := HA.out _ HBL.out
      have HCB := Lib.hid cB
      have HCI := Lib.hid cI
      clear cI cB
      by_cases hlt : k < l.length
      · have hin : (k : Int) < n := by omega
        have d0 : decide ((k : Int) < n) = true := decide_eq_true hin
        go_wp2_with fail
        refine (specIsG_any n _ l _ HCI.out).mono ?_
        rintro e wr2 ⟨r, rfl, hr, hb⟩
        obtain rfl : r = true := hr.2 HG.out
        have HBL2 := Lib.hid (HBL.out.trans (hb.mono hz))
        clear hb hr c0 c1 hz HCI
        have hz := (HA.out _ HBL2.out).2.2.2.2
        obtain ⟨P, hP⟩ : ∃ P, P = 2 ^ k := ⟨_, rfl⟩
        have eP : (2 : Int) ^ k = (P : Int) := by rw [hP]; push_cast; rfl
        have hP7 : P < 128 := by rw [hP]; exact Nat.pow_lt_pow_right (n := 7) (by omega) (by omega)
        have hPl : 2 ^ k < 2 ^ l.length := Nat.pow_lt_pow_right (by decide) hlt
        have g1 : IntKind.i64.wrap (1 * (P : Int)) = P := IntWalk.i64_in _ (by omega) |>.trans (by omega)
        have g2 : IntKind.i64.wrap (P : Int) = P := IntWalk.i64_in _ (by omega)
        have hSF : S < 128 := by have := two_le k (by omega); omega
        have g5 : IntKind.i64.wrap ((S : Int) + (P : Int)) = ((S + P : Nat) : Int) := (IntWalk.i64_in _ (by omega)).trans (by omega)
        have g6 : bits .or .i64 (S : Int) (P : Int) = ((S + P : Nat) : Int) := by rw [hP]; exact or_fresh' k S (by omega) hS
        have hfr := rest_is (isS_nat HG.out hPl)
        rw [← hP, ← HM.out] at hfr
        obtain ⟨Q, hQ⟩ : ∃ Q : Int, Q = M - (P : Int) := ⟨_, rfl⟩
        have q1 : bits .andNot .i64 M (P : Int) = Q := by rw [hQ]; exact hfr.1
        have q2 : IntKind.i64.wrap (M - (P : Int)) = Q := (IntWalk.i64_in _ (by have := hfr.2; have := HM.out; omega)).trans hQ.symm
        obtain ⟨PL, hPL⟩ : ∃ PL : Int → Nat, PL = plen n l := ⟨_, rfl⟩
        have HC : Hid (∀ (x : Int) W, Ints W (.slice a l.length cap) l → Calls Try.prog 67 #[.agg #[.int .i64 n, .slice a l.length cap], .int .i64 x] W fun e w' => ∃ ap capp, e = .returned (.slice ap (PL x) capp) ∧ Below W.heap.size W w') := fun x W hI => by rw [hPL]; exact specPlen n _ l x W hI
        have HSN := Lib.hid (show cutN n l (k + 1) = if PL M < PL Q then cutN n l k + P else cutN n l k by rw [hPL, hQ, HM.out, hP]; rfl)
        have HSP := Lib.hid (show S + P < 2 ^ (k + 1) by rw [Nat.pow_succ, ← hP]; rw [← hP] at hS; omega)
        have HS2 := Lib.hid (show S < 2 ^ (k + 1) by rw [Nat.pow_succ]; omega)
        have HST : Hid (∀ W, Below wr2.heap.size wr2 W → W.cell? ⟨w.heap.size, 0, none⟩ = some (.int .i64 n) ∧ W.cell? ⟨w.heap.size, 1, none⟩ = some (.slice a l.length cap) ∧ Ints W (.slice a l.length cap) l ∧ Below (w.heap.size + 1) (w.alloc (.cells #[.int .i64 n, .slice a l.length cap] 28)) W ∧ Below wr2.heap.size wr2 W) := fun W hW => by
          obtain ⟨c0, c1, cI, cB, -⟩ := HA.out W (HBL2.out.trans (hW.mono hz))
          exact ⟨c0, c1, cI, HBL2.out.trans (hW.mono hz), hW⟩
        obtain ⟨e0, e1, eI, eB, -⟩ := HST.out _ (Below.refl _ _)
        clear hP hPl hS hfr hPL hQ 
        by_cases hpl : PL M < PL Q
        · have d1 : decide ((PL M : Int) < (PL Q : Int)) = true := decide_eq_true (by omega)
          have d1n : decide (PL M < PL Q) = true := decide_eq_true hpl
          have HT := Lib.hid (show S + P = cutN n l (k + 1) by rw [HSN.out, if_pos hpl, ← HS.out])
          go_wp2
          go_region_held3 (fun W => W.cell? ⟨w.heap.size, 0, none⟩ = some (.int .i64 n) ∧ W.cell? ⟨w.heap.size, 1, none⟩ = some (.slice a l.length cap) ∧ Ints W (.slice a l.length cap) l ∧ Below (w.heap.size + 1) (w.alloc (.cells #[.int .i64 n, .slice a l.length cap] 28)) W ∧ Below wr2.heap.size wr2 W)
            (first | exact HST.out _ (Below.refl _ _).drew | exact HST.out _ (Below.refl _ _) | (go_split_ands; exact HST.out _ (btrans (by assumption) hb)))
            (first | (go_at_call 67; go_split_ands; refine (HC.out _ _ (by assumption)).mono ?_; rintro e wz ⟨ap, capp, rfl, hb⟩))
          go_split_ands
          have HW := Lib.hid (show Below (w.heap.size + 1) (w.alloc (.cells #[.int .i64 n, .slice a l.length cap] 28)) wz by assumption)
          clear e0 e1 eI eB
          go_wp2
          go_roundw
          case rel => exact ⟨k + 1, S + P, by omega, HSP.out, by go_num, by first | rfl | go_num, HT.out, HW.out⟩
          case measure => simp [intOf]; omega
        · have d1 : decide ((PL M : Int) < (PL Q : Int)) = false := decide_eq_false (by omega)
          have d1n : decide (PL M < PL Q) = false := decide_eq_false hpl
          have HT := Lib.hid (show S = cutN n l (k + 1) by rw [HSN.out, if_neg hpl, ← HS.out])
          go_wp2
          go_region_held3 (fun W => W.cell? ⟨w.heap.size, 0, none⟩ = some (.int .i64 n) ∧ W.cell? ⟨w.heap.size, 1, none⟩ = some (.slice a l.length cap) ∧ Ints W (.slice a l.length cap) l ∧ Below (w.heap.size + 1) (w.alloc (.cells #[.int .i64 n, .slice a l.length cap] 28)) W ∧ Below wr2.heap.size wr2 W)
            (first | exact HST.out _ (Below.refl _ _).drew | exact HST.out _ (Below.refl _ _) | (go_split_ands; exact HST.out _ (btrans (by assumption) hb)))
            (first | (go_at_call 67; go_split_ands; refine (HC.out _ _ (by assumption)).mono ?_; rintro e wz ⟨ap, capp, rfl, hb⟩))
          go_split_ands
          have HW := Lib.hid (show Below (w.heap.size + 1) (w.alloc (.cells #[.int .i64 n, .slice a l.length cap] 28)) wz by assumption)
          clear e0 e1 eI eB
          go_wp2
          go_roundw
          case rel => exact ⟨k + 1, S, by omega, HS2.out, by go_num, rfl, HT.out, HW.out⟩
          case measure => simp [intOf]; omega
      · obtain rfl : k = l.length := by omega
        have d0 : decide ((l.length : Int) < n) = false := decide_eq_false (by omega)
        go_wp2
        go_ret
        exact ⟨by rw [HN.out, ← HS.out]; rfl, HCB.out⟩
  · have HNO := Lib.hid hg
    have HN := Lib.hid (show cutR n l = 0 by unfold cutR; rw [if_neg hg])
    clear hg
    go_enter Try.func38, Try.ntmps38
    go_wp2
    go_loopw [3, 4] (fun x y wr => y = .int .i64 0 ∧ x = .int .i64 0 ∧ Below (w.heap.size + 1) (w.alloc (.cells #[.int .i64 n, .slice a l.length cap] 28)) wr) (fun _ _ _ => 0)
    case atStart => exact ⟨rfl, rfl, Below.refl _ _⟩
    case round =>
      obtain ⟨rfl, rfl, hbel⟩ := hrel
      obtain ⟨c0, c1, cI, cB, hz⟩ := HA.out _ hbel
      have HCI := Lib.hid cI
      have HCB := Lib.hid cB
      clear hbel cI cB
      by_cases h0 : 0 < n
      · have d0 : decide (0 < n) = true := decide_eq_true h0
        clear h0
        go_wp2_with fail
        refine (specIsG_any n _ l _ HCI.out).mono ?_
        rintro e wa ⟨r, rfl, hr, hb⟩
        obtain rfl : r = false := by
          cases r with
          | false => rfl
          | true => exact absurd (hr.1 rfl) HNO.out
        have HCB2 := Lib.hid (HCB.out.trans (hb.mono HCB.out.size))
        clear hb hr
        go_wp2
        go_ret
        exact ⟨by rw [HN.out]; rfl, HCB2.out⟩
      · have d0 : decide (0 < n) = false := decide_eq_false h0
        clear h0
        go_wp2
        go_ret
        exact ⟨by rw [HN.out]; rfl, HCB.out⟩

end Go.Proofs.Ytbgkceekkinngaa
