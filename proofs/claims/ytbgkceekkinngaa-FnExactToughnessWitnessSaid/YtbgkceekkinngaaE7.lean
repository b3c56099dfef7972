/- ToughnessWitness. -/
import Derived.Test.YtbgkceekkinngaaE2
import Derived.Test.YtbgkceekkinngaaV9
import Derived.Test.YtbgkceekkinngaaH3
import Derived.Deep.RegionHeld3
import Derived.Laws.EntriesVeiled
namespace Go.Proofs.Ytbgkceekkinngaa
set_option linter.unusedVariables false
set_option linter.unusedSimpArgs false
open Go.RowKit

/-- More parts without it than it has members, and at least two. -/
def TouS (n : Int) (l : List Int) (x : Int) : Prop := 2 ≤ plen n l (2 ^ n.toNat - 1 - x) ∧ popU x < plen n l (2 ^ n.toNat - 1 - x)

instance (n : Int) (l : List Int) (x : Int) : Decidable (TouS n l x) := by unfold TouS; infer_instance

def touB (n : Int) (l : List Int) (x : Nat) : Bool := decide (TouS n l (x : Int))

set_option maxRecDepth 100000 in
theorem enters_tou : Enters 70 := fun args W => by rfl

set_option maxHeartbeats 2000000 in
set_option maxRecDepth 100000 in
theorem rule_tou (q : Nat) (n : Int) (v : Value) (l : List Int) (W0 : World) (hg : IsG n l) (hb : BoxG q n v W0) (hI : Ints W0 v l) :
    Rule1 70 #[.pointer (some ⟨q, 0, none⟩)] (2 ^ l.length) (touB n l) W0 := by
  intro W x hx hbel
  obtain ⟨a, cap, rfl, -, -⟩ := hI.form
  have HST : Hid (∀ X, Below W.heap.size W X → X.cell? ⟨q, 0, none⟩ = some (.int .i64 n) ∧ X.cell? ⟨q, 1, none⟩ = some (.slice a l.length cap) ∧ Ints X (.slice a l.length cap) l ∧ Below W.heap.size W X) := fun X hX => by
    have h1 := (hb.keep (below_grown hbel) (by simp)).keep (below_grown hX) (by simp)
    exact ⟨h1.1, h1.2.1, (hI.on hbel).on hX, hX⟩
  have hfr := rest_is (isS_nat hg hx)
  obtain ⟨M, hM⟩ : ∃ M : Int, M = 2 ^ n.toNat - 1 := ⟨_, rfl⟩
  rw [← hM] at hfr
  obtain ⟨Q, hQ⟩ : ∃ Q : Int, Q = M - (x : Int) := ⟨_, rfl⟩
  have q1 : bits .andNot .i64 M (x : Int) = Q := by rw [hQ]; exact hfr.1
  obtain ⟨PL, hPL⟩ : ∃ PL : Int → Nat, PL = plen n l := ⟨_, rfl⟩
  have HC : Hid (∀ (x : Int) W, Ints W (.slice a l.length cap) l → Calls Try.prog 69 #[.agg #[.int .i64 n, .slice a l.length cap], .int .i64 x] W fun e w' => ∃ ap capp, e = .returned (.slice ap (PL x) capp) ∧ Below W.heap.size W w') := fun x W hI => by rw [hPL]; exact implPlen n _ l x W hI
  have HC2 : Hid (∀ W, Ints W (.slice a l.length cap) l → Calls Try.prog 68 #[.agg #[.int .i64 n, .slice a l.length cap]] W fun e w' => e = .returned (.int .i64 M) ∧ Below W.heap.size W w') := fun W hI => by rw [hM]; exact allVertices_is n _ l W hI hg.1 hg.2.1
  have HB := Lib.hid (show touB n l x = (decide (2 ≤ PL Q) && decide (popU x < (PL Q : Int))) by
    have : touB n l x = decide (2 ≤ PL Q ∧ popU x < (PL Q : Int)) := by unfold touB TouS; rw [hPL, hQ, hM]
    rw [this, Bool.decide_and])
  obtain ⟨e0, e1, eI, eB⟩ := HST.out _ (Below.refl _ _)
  clear hb hI hbel hfr hM hQ hPL hg
  show Calls Try.prog 70 #[.int .i64 x, .pointer (some ⟨q, 0, none⟩)] W _
  go_enter Try.func70, Try.ntmps70
  go_wp2
  go_region_held3 (fun X => X.cell? ⟨q, 0, none⟩ = some (.int .i64 n) ∧ X.cell? ⟨q, 1, none⟩ = some (.slice a l.length cap) ∧ Ints X (.slice a l.length cap) l ∧ Below W.heap.size W X)
    (first | exact HST.out _ (Below.refl _ _).drew | exact HST.out _ (Below.refl _ _) | (go_split_ands; exact HST.out _ (btrans (by assumption) hb)))
    (first
      | (go_at_call 68; go_split_ands; refine (HC2.out _ (by assumption)).mono ?_; rintro e wz ⟨rfl, hb⟩)
      | (go_at_call 69; go_split_ands; refine (HC.out _ _ (by assumption)).mono ?_; rintro e wz ⟨ap, capp, rfl, hb⟩))
  go_split_ands
  have HW := Lib.hid (show Below W.heap.size W wz by assumption)
  clear e0 e1 eI eB
  by_cases h2 : 2 ≤ PL Q
  · have d2 : decide ((2 : Int) ≤ (PL Q : Int)) = true := decide_eq_true (by omega)
    have d3 : decide ((PL Q : Int) ≥ 2) = true := decide_eq_true (by omega)
    have H2 := Lib.hid h2
    clear h2
    go_wp2_with fail
    refine (implCountSet x _).mono ?_
    rintro e wy ⟨rfl, rfl⟩
    by_cases hp : popU x < (PL Q : Int)
    · have d4 : decide (popU x < (PL Q : Int)) = true := decide_eq_true hp
      have HP := Lib.hid d4
      clear hp d2 d3
      go_wp2
      go_ret
      exact ⟨by rw [HB.out, HP.out, decide_eq_true H2.out]; rfl, HW.out⟩
    · have d4 : decide (popU x < (PL Q : Int)) = false := decide_eq_false hp
      have HP := Lib.hid d4
      clear hp d2 d3
      go_wp2
      go_ret
      exact ⟨by rw [HB.out, HP.out, decide_eq_true H2.out]; rfl, HW.out⟩
  · have d2 : decide ((2 : Int) ≤ (PL Q : Int)) = false := decide_eq_false (by omega)
    have d3 : decide ((PL Q : Int) ≥ 2) = false := decide_eq_false (by omega)
    have H2 := Lib.hid (decide_eq_false h2)
    clear h2
    go_wp2
    go_ret
    exact ⟨by rw [HB.out, H2.out]; rfl, HW.out⟩

set_option maxHeartbeats 4000000 in
set_option maxRecDepth 100000 in
theorem implTou (n : Int) (v : Value) (l : List Int) (w : World) (h : Ints w v l) :
    Calls Try.prog 41 #[.agg #[.int .i64 n, v]] w (SaysIB' (headI (famR n l (touB n l))) (headB (famR n l (touB n l))) w) := by
  obtain ⟨a, cap, rfl, -, -⟩ := h.form
  have hmf : ∀ (fn : Fn) (first cap : Array Value) (w : World), (Instr.makeFunc fn first cap).run Try.prog w = .ok (.func fn first cap) w := fun _ _ _ _ => rfl
  have BX := Lib.hid ((BoxG.new w 28 n (.slice a l.length cap) ⟨_, _, _, rfl⟩).keep (grown_alloc _ (.cells #[.int .i64 n, .slice a l.length cap, .func (.func 70) #[] #[.pointer (some ⟨w.heap.size, 0, none⟩)]] 41) none) (by simp))
  have II := Lib.hid ((h.alloc (.cells #[.int .i64 n, .slice a l.length cap] 28)).alloc (.cells #[.int .i64 n, .slice a l.length cap, .func (.func 70) #[] #[.pointer (some ⟨w.heap.size, 0, none⟩)]] 41))
  have BB := Lib.hid (((Below.refl _ w).alloc (Nat.le_refl _) (.cells #[.int .i64 n, .slice a l.length cap] 28)).alloc (by simp) (.cells #[.int .i64 n, .slice a l.length cap, .func (.func 70) #[] #[.pointer (some ⟨w.heap.size, 0, none⟩)]] 41))
  clear h
  go_enter Try.func41, Try.ntmps41
  go_wp2_with fail
  refine (first_any 70 #[.pointer (some ⟨w.heap.size, 0, none⟩)] (touB n l) n _ l _ II.out enters_tou (fun hg => rule_tou w.heap.size n _ l _ hg BX.out II.out)).mono ?_
  rintro e w2 ⟨rfl, hb⟩
  have HB := Lib.hid (BB.out.trans (hb.mono BB.out.size))
  clear hb hmf
  go_wp2
  go_ret2
  exact ⟨rfl, HB.out⟩

set_option maxHeartbeats 4000000 in
set_option maxRecDepth 100000 in
theorem specTou (n : Int) (v : Value) (l : List Int) (w : World) (h : Ints w v l) :
    Calls Try.prog 40 #[.agg #[.int .i64 n, v]] w (SaysIB' (headI (famR n l (touB n l))) (headB (famR n l (touB n l))) w) := by
  obtain ⟨a, cap, rfl, -, -⟩ := h.form
  have HA := argG' (T := 28) (n := n) h
  clear h
  by_cases hg : IsG n l
  · have HG := Lib.hid hg
    have hn1 := hg.1
    have hn7 := hg.2.1
    obtain ⟨F, hF⟩ : ∃ F, F = 2 ^ l.length := ⟨_, rfl⟩
    obtain ⟨N, eN, hN0⟩ : ∃ N, (2 : Int) ^ n.toNat = N ∧ N = (F : Int) := ⟨_, rfl, by rw [hF]; exact (full_cast hg).2.2.2.1⟩
    have hF2 : F ≤ 128 := by rw [hF]; exact (full_cast hg).2.1
    have hF1 : 0 < F := by rw [hF]; exact (full_cast hg).2.2.1
    have HN := Lib.hid (show famR n l (touB n l) = famL (touB n l) F by unfold famR; rw [if_pos hg, hF])
    have HF := Lib.hid hF
    subst hN0
    have q6 : IntKind.i64.wrap (1 * (F : Int)) = (F : Int) := IntWalk.i64_in _ (by omega) |>.trans (by omega)
    clear hg hF
    go_enter Try.func40, Try.ntmps40
    go_wp2
    go_loopw [4, 5] (fun i y wr => ∃ k : Nat, k ≤ F ∧ i = .int .i64 k ∧ Hid (famL (touB n l) k = []) ∧ Below (w.heap.size + 1) (w.alloc (.cells #[.int .i64 n, .slice a l.length cap] 28)) wr) (fun i _ _ => F - (intOf i).toNat)
    case atStart => exact ⟨0, by omega, rfl, rfl, Below.refl _ _⟩
    case round =>
      obtain ⟨k, hk, rfl, HE, hbel⟩ := hrel
      obtain ⟨c0, c1, cI, cB, hz⟩ := HA.out _ hbel
      have HBL := Lib.hid hbel
      have HCI := Lib.hid cI
      have HCB := Lib.hid cB
      clear hbel cI cB
      go_wp2_with fail
      refine (specIsG_any n _ l _ HCI.out).mono ?_
      rintro e wa ⟨r, rfl, hr, hb⟩
      obtain rfl : r = true := hr.2 HG.out
      have HB2 := Lib.hid (HBL.out.trans (hb.mono hz))
      clear hb hr c0 c1 hz HCI
      obtain ⟨c0, c1, cI, cB, hz⟩ := HA.out _ HB2.out
      have HCI := Lib.hid cI
      have HCB2 := Lib.hid cB
      clear cI cB
      by_cases hlt : k < F
      · have HS := Lib.hid (famL_succ (touB n l) k)
        have HST : Hid (∀ W, Below wa.heap.size wa W → W.cell? ⟨w.heap.size, 0, none⟩ = some (.int .i64 n) ∧ W.cell? ⟨w.heap.size, 1, none⟩ = some (.slice a l.length cap) ∧ Ints W (.slice a l.length cap) l ∧ Below (w.heap.size + 1) (w.alloc (.cells #[.int .i64 n, .slice a l.length cap] 28)) W ∧ Below wa.heap.size wa W) := fun W hW => by
          obtain ⟨c0, c1, cI, cB, -⟩ := HA.out W (HB2.out.trans (hW.mono hz))
          exact ⟨c0, c1, cI, HB2.out.trans (hW.mono hz), hW⟩
        obtain ⟨e0, e1, eI, eB, -⟩ := HST.out _ (Below.refl _ _)
        have hkl : k < 2 ^ l.length := by rw [← HF.out]; exact hlt
        have hfr := rest_is (isS_nat HG.out hkl)
        obtain ⟨M, hM⟩ : ∃ M : Int, M = 2 ^ n.toNat - 1 := ⟨_, rfl⟩
        rw [← hM] at hfr
        obtain ⟨Q, hQ⟩ : ∃ Q : Int, Q = M - (k : Int) := ⟨_, rfl⟩
        have hMF : (F : Int) - 1 = M := by rw [hM, eN]
        have q9 : IntKind.i64.wrap (F : Int) = F := IntWalk.i64_in _ (by omega)
        have q7 : IntKind.i64.wrap ((F : Int) - 1) = M := (IntWalk.i64_in _ (by omega)).trans hMF
        have q10 : IntKind.i64.wrap M = M := IntWalk.i64_in _ (by omega)
        have q8 : IntKind.i64.wrap (M - (k : Int)) = Q := (IntWalk.i64_in _ (by have := hfr.2; omega)).trans hQ.symm
        obtain ⟨PL, hPL⟩ : ∃ PL : Int → Nat, PL = plen n l := ⟨_, rfl⟩
        have HC : Hid (∀ (x : Int) W, Ints W (.slice a l.length cap) l → Calls Try.prog 67 #[.agg #[.int .i64 n, .slice a l.length cap], .int .i64 x] W fun e w' => ∃ ap capp, e = .returned (.slice ap (PL x) capp) ∧ Below W.heap.size W w') := fun x W hI => by rw [hPL]; exact specPlen n _ l x W hI
        have HTB := Lib.hid (show TouS n l k ↔ (2 ≤ PL Q ∧ popU (k : Int) < (PL Q : Int)) by unfold TouS; rw [hPL, hQ, hM])
        clear hkl hfr hM hQ hPL c0 c1 HCI
        go_wp2
        go_region_held3 (fun W => W.cell? ⟨w.heap.size, 0, none⟩ = some (.int .i64 n) ∧ W.cell? ⟨w.heap.size, 1, none⟩ = some (.slice a l.length cap) ∧ Ints W (.slice a l.length cap) l ∧ Below (w.heap.size + 1) (w.alloc (.cells #[.int .i64 n, .slice a l.length cap] 28)) W ∧ Below wa.heap.size wa W)
          (first | exact HST.out _ (Below.refl _ _).drew | exact HST.out _ (Below.refl _ _) | (go_split_ands; exact HST.out _ (btrans (by assumption) hb)))
          (first | (go_at_call 67; go_split_ands; refine (HC.out _ _ (by assumption)).mono ?_; rintro e wz ⟨ap, capp, rfl, hb⟩))
        go_split_ands
        have HB3 := Lib.hid (show Below (w.heap.size + 1) (w.alloc (.cells #[.int .i64 n, .slice a l.length cap] 28)) wz by assumption)
        clear e0 e1 eI eB
        obtain ⟨L, hL⟩ : ∃ L, PL Q = L := ⟨_, rfl⟩
        rw [hL]
        have HTB := Lib.hid (show TouS n l k ↔ (2 ≤ L ∧ popU (k : Int) < (L : Int)) by rw [← hL]; exact HTB.out)
        clear hL
        go_wp2_with fail
        refine (specCountSet k _).mono ?_
        rintro e wb ⟨rfl, hb⟩
        have HB3 := Lib.hid (HB3.out.trans (hb.mono (HA.out _ HB3.out).2.2.2.2))
        have HCB3 := Lib.hid (HA.out _ HB3.out).2.2.2.1
        clear hb
        by_cases hp : popU (k : Int) < (L : Int)
        · have d1 : decide (popU (k : Int) < (L : Int)) = true := decide_eq_true hp
          by_cases h2 : 2 ≤ L
          · have d2 : decide ((1 : Int) < (L : Int)) = true := decide_eq_true (by omega)
            have hs : TouS n l k := HTB.out.2 ⟨h2, hp⟩
            have HT := Lib.hid (show famL (touB n l) (k + 1) = [(k : Int)] by rw [HS.out, HE.out]; simp [touB, hs])
            have HFF := Lib.hid (show ∃ t, famL (touB n l) F = (k : Int) :: t by
              obtain ⟨d, hd⟩ : ∃ d, F = k + 1 + d := ⟨F - (k + 1), by omega⟩
              have : ∀ d, ∃ t, famL (touB n l) (k + 1 + d) = (k : Int) :: t := fun d => by
                induction d with
                | zero => exact ⟨[], HT.out⟩
                | succ d ih =>
                  obtain ⟨t, ht⟩ := ih
                  exact ⟨_, by rw [← Nat.add_assoc, famL_succ, ht]; rfl⟩
              rw [hd]; exact this d)
            clear hs hp h2
            go_wp2
            go_ret2
            obtain ⟨t, ht⟩ := HFF.out
            exact ⟨by rw [HN.out, ht]; rfl, HCB3.out⟩
          · have d2 : decide ((1 : Int) < (L : Int)) = false := decide_eq_false (by omega)
            have hs : ¬ TouS n l k := fun h => h2 (HTB.out.1 h).1
            have HT := Lib.hid (show famL (touB n l) (k + 1) = [] by rw [HS.out, HE.out]; simp [touB, hs])
            clear hs hp h2
            go_wp2
            go_roundw
            case rel => exact ⟨k + 1, by omega, by go_num, HT.out, HB3.out⟩
            case measure => simp [intOf]; omega
        · have d1 : decide (popU (k : Int) < (L : Int)) = false := decide_eq_false hp
          have hs : ¬ TouS n l k := fun h => hp (HTB.out.1 h).2
          have HT := Lib.hid (show famL (touB n l) (k + 1) = [] by rw [HS.out, HE.out]; simp [touB, hs])
          clear hs hp
          go_wp2
          go_roundw
          case rel => exact ⟨k + 1, by omega, by go_num, HT.out, HB3.out⟩
          case measure => simp [intOf]; omega
      · obtain rfl : k = F := by omega
        go_wp2
        go_ret2
        exact ⟨by rw [HN.out, HE.out]; rfl, HCB2.out⟩
  · have HNO := Lib.hid hg
    have HN := Lib.hid (show famR n l (touB n l) = [] by unfold famR; rw [if_neg hg])
    clear hg
    go_enter Try.func40, Try.ntmps40
    go_wp2
    go_loopw [4, 5] (fun i y wr => i = .int .i64 0 ∧ Below (w.heap.size + 1) (w.alloc (.cells #[.int .i64 n, .slice a l.length cap] 28)) wr) (fun _ _ _ => 0)
    case atStart => exact ⟨rfl, Below.refl _ _⟩
    case round =>
      obtain ⟨rfl, hbel⟩ := hrel
      obtain ⟨c0, c1, cI, cB, hz⟩ := HA.out _ hbel
      have HCI := Lib.hid cI
      have HCB := Lib.hid cB
      clear hbel cI cB
      go_wp2_with fail
      refine (specIsG_any n _ l _ HCI.out).mono ?_
      rintro e wa ⟨r, rfl, hr, hb⟩
      obtain rfl : r = false := by
        cases r with
        | false => rfl
        | true => exact absurd (hr.1 rfl) HNO.out
      have HCB2 := Lib.hid (HCB.out.trans (hb.mono HCB.out.size))
      clear hb hr
      go_wp2
      go_ret2
      exact ⟨by rw [HN.out]; rfl, HCB2.out⟩

end Go.Proofs.Ytbgkceekkinngaa
