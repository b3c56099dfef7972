/- FindStretched. -/
import Derived.Test.YtbgkceekkinngacK2
import Derived.Test.YtbgkceekkinngacE2
import Derived.Test.YtbgkceekkinngacV9
import Derived.Laws.EntriesVeiled
namespace Go.Proofs.Ytbgkceekkinngac
set_option linter.unusedVariables false
set_option linter.unusedSimpArgs false
open Go.RowKit

/-- One part, in which some distance is not that of the graph. -/
def strB (n : Int) (l : List Int) (x : Nat) : Bool := decide (plen n l (x : Int) = 1) && !decide (KeepP n l (x : Int))

theorem strB_zero (n : Int) (l : List Int) : strB n l 0 = false := by
  unfold strB plen partsR
  split
  · simp [partsN]
  · simp

set_option maxRecDepth 100000 in
theorem enters_str : Enters 99 := fun args W => by rfl

set_option maxHeartbeats 2000000 in
set_option maxRecDepth 100000 in
theorem rule_str (q : Nat) (n : Int) (v : Value) (l : List Int) (m : Nat) (W0 : World) (hb : BoxG q n v W0) (hI : Ints W0 v l) :
    Rule1 99 #[.pointer (some ⟨q, 0, none⟩)] m (strB n l) W0 := by
  intro W x hx hbel
  have HB := Lib.hid (hb.keep (below_grown hbel) (by simp))
  obtain ⟨a, cap, rfl, -, -⟩ := hI.form
  have HI := Lib.hid (hI.on hbel)
  clear hb hI hbel hx
  obtain ⟨c0, c1, cz⟩ := HB.out
  obtain ⟨L, hL⟩ : ∃ L, L = plen n l (x : Int) := ⟨_, rfl⟩
  have HC := Lib.hid (implPlen n _ l (x : Int) _ HI.out)
  rw [← hL] at HC
  have HS := Lib.hid (show strB n l x = (decide (L = 1) && !decide (KeepP n l (x : Int))) by unfold strB; rw [← hL])
  clear hL
  show Calls Try.prog 99 #[.int .i64 x, .pointer (some ⟨q, 0, none⟩)] W _
  go_enter Try.func99, Try.ntmps99
  go_wp2_with fail
  refine HC.out.mono ?_
  rintro e w1 ⟨ap, capp, rfl, hb⟩
  have HW := Lib.hid hb
  have HI2 := Lib.hid (HI.out.on hb)
  have HB2 := Lib.hid (HB.out.keep (below_grown hb) (by simp))
  clear hb c0 c1 cz HC
  obtain ⟨c0, c1, cz⟩ := HB2.out
  by_cases h1 : L = 1
  · have d1 : ((L : Int) == 1) = true := by rw [beq_iff_eq]; omega
    have H1 := Lib.hid h1
    clear h1
    go_wp2_with fail
    refine ((implKeep n _ l x _ HI2.out).mono fun _ _ h => h.dec).mono ?_
    rintro e w2 ⟨rfl, hb⟩
    have HW2 := Lib.hid (HW.out.trans (hb.mono HW.out.size))
    clear hb c0 c1 cz
    obtain ⟨b, hbb⟩ : ∃ b, b = decide (KeepP n l x) := ⟨_, rfl⟩
    have HE := Lib.hid hbb
    rw [← hbb]
    clear hbb
    cases b with
    | true =>
      go_wp2
      go_ret
      exact ⟨by rw [HS.out, ← HE.out, H1.out]; rfl, HW2.out⟩
    | false =>
      go_wp2
      go_ret
      exact ⟨by rw [HS.out, ← HE.out, H1.out]; rfl, HW2.out⟩
  · have d1 : ((L : Int) == 1) = false := by rw [beq_eq_false_iff_ne]; omega
    have H1 := Lib.hid (decide_eq_false h1)
    clear h1
    go_wp2
    go_ret
    exact ⟨by rw [HS.out, H1.out]; rfl, HW.out⟩

set_option maxHeartbeats 4000000 in
set_option maxRecDepth 100000 in
theorem implStr (n : Int) (v : Value) (l : List Int) (w : World) (h : Ints w v l) :
    Calls Try.prog 53 #[.agg #[.int .i64 n, v]] w (SaysIB' (headI (famR n l (strB n l))) (headB (famR n l (strB n l))) w) := by
  obtain ⟨a, cap, rfl, -, -⟩ := h.form
  have hmf : ∀ (fn : Fn) (first cap : Array Value) (w : World), (Instr.makeFunc fn first cap).run Try.prog w = .ok (.func fn first cap) w := fun _ _ _ _ => rfl
  have BX := Lib.hid ((BoxG.new w 27 n (.slice a l.length cap) ⟨_, _, _, rfl⟩).keep (grown_alloc _ (.cells #[.int .i64 n, .slice a l.length cap, .func (.func 99) #[] #[.pointer (some ⟨w.heap.size, 0, none⟩)]] 89) none) (by simp))
  have II := Lib.hid ((h.alloc (.cells #[.int .i64 n, .slice a l.length cap] 27)).alloc (.cells #[.int .i64 n, .slice a l.length cap, .func (.func 99) #[] #[.pointer (some ⟨w.heap.size, 0, none⟩)]] 89))
  have BB := Lib.hid (((Below.refl _ w).alloc (Nat.le_refl _) (.cells #[.int .i64 n, .slice a l.length cap] 27)).alloc (by simp) (.cells #[.int .i64 n, .slice a l.length cap, .func (.func 99) #[] #[.pointer (some ⟨w.heap.size, 0, none⟩)]] 89))
  clear h
  go_enter Try.func53, Try.ntmps53
  go_wp2_with fail
  refine (first_any 99 #[.pointer (some ⟨w.heap.size, 0, none⟩)] (strB n l) n _ l _ II.out enters_str (fun _ => rule_str w.heap.size n _ l _ _ BX.out II.out)).mono ?_
  rintro e w2 ⟨rfl, hb⟩
  have HB := Lib.hid (BB.out.trans (hb.mono BB.out.size))
  clear hb hmf
  go_wp2
  go_ret2
  exact ⟨rfl, HB.out⟩

set_option maxHeartbeats 4000000 in
set_option maxRecDepth 100000 in
theorem specStr (n : Int) (v : Value) (l : List Int) (w : World) (h : Ints w v l) :
    Calls Try.prog 52 #[.agg #[.int .i64 n, v]] w (SaysIB' (headI (famR n l (strB n l))) (headB (famR n l (strB n l))) w) := by
  obtain ⟨a, cap, rfl, -, -⟩ := h.form
  have HA := argG' (T := 27) (n := n) h
  clear h
  by_cases hg : IsG n l
  · have HG := Lib.hid hg
    have hn1 := hg.1
    have hn7 := hg.2.1
    obtain ⟨F, hF⟩ : ∃ F, F = 2 ^ l.length := ⟨_, rfl⟩
    obtain ⟨N, eN, hN0⟩ : ∃ N, (2 : Int) ^ n.toNat = N ∧ N = (F : Int) := ⟨_, rfl, by rw [hF]; exact (full_cast hg).2.2.2.1⟩
    have hF2 : F ≤ 128 := by rw [hF]; exact (full_cast hg).2.1
    have hF1 : 0 < F := by rw [hF]; exact (full_cast hg).2.2.1
    have HN := Lib.hid (show famR n l (strB n l) = famL (strB n l) F by unfold famR; rw [if_pos hg, hF])
    subst hN0
    have q6 : IntKind.i64.wrap (1 * (F : Int)) = (F : Int) := IntWalk.i64_in _ (by omega) |>.trans (by omega)
    clear hg hF
    go_enter Try.func52, Try.ntmps52
    go_wp2
    go_loopw [4] (fun i wr => ∃ k : Nat, 1 ≤ k ∧ k ≤ F ∧ i = .int .i64 k ∧ Hid (famL (strB n l) k = []) ∧ Below (w.heap.size + 1) (w.alloc (.cells #[.int .i64 n, .slice a l.length cap] 27)) wr) (fun i _ => F - (intOf i).toNat)
    case atStart => exact ⟨1, by omega, by omega, rfl, by rw [famL_succ, strB_zero]; rfl, Below.refl _ _⟩
    case round =>
      obtain ⟨k, hk1, hk, rfl, HE, hbel⟩ := hrel
      obtain ⟨c0, c1, cI, cB, hz⟩ := HA.out _ hbel
      have HBL := Lib.hid hbel
      have HCI := Lib.hid cI
      have HCB := Lib.hid cB
      clear hbel cI cB
      go_wp2_with fail
      refine (specIsG_any n _ l _ HCI.out).mono ?_
      rintro e wa ⟨r, rfl, hr, hb⟩
      obtain rfl : r = true := hr.2 HG.out
      have HB2 := Lib.hid (HBL.out.trans (hb.mono hz))
      clear hb hr c0 c1 hz HCI
      obtain ⟨c0, c1, cI, cB, hz⟩ := HA.out _ HB2.out
      have HCI := Lib.hid cI
      have HCB2 := Lib.hid cB
      clear cI cB
      by_cases hlt : k < F
      · have HS := Lib.hid (famL_succ (strB n l) k)
        obtain ⟨L, hL⟩ : ∃ L, L = plen n l (k : Int) := ⟨_, rfl⟩
        have HC := Lib.hid (specPlen n _ l (k : Int) _ HCI.out)
        rw [← hL] at HC
        have HSB := Lib.hid (show strB n l k = (decide (L = 1) && !decide (KeepP n l (k : Int))) by unfold strB; rw [← hL])
        clear hL
        go_wp2_with fail
        refine HC.out.mono ?_
        rintro e wb ⟨ap, capp, rfl, hb⟩
        have HB3 := Lib.hid (HB2.out.trans (hb.mono hz))
        clear hb c0 c1 hz HC HCI
        obtain ⟨c0, c1, cI, cB, hz⟩ := HA.out _ HB3.out
        have HCI := Lib.hid cI
        have HCB3 := Lib.hid cB
        clear cI cB
        by_cases h1 : L = 1
        · have d1 : ((L : Int) == 1) = true := by rw [beq_iff_eq]; omega
          have H1 := Lib.hid (decide_eq_true h1)
          clear h1
          go_wp2_with fail
          refine ((specKeep n _ l k _ HCI.out).mono fun _ _ h => h.dec).mono ?_
          rintro e wc ⟨rfl, hb⟩
          have HCB3 := Lib.hid (HCB3.out.trans (hb.mono HCB3.out.size))
          have HB3 := Lib.hid (HB3.out.trans (hb.mono hz))
          clear hb c0 c1 hz
          obtain ⟨b, hbb⟩ : ∃ b, b = decide (KeepP n l k) := ⟨_, rfl⟩
          have hs : strB n l k = !b := by rw [HSB.out, H1.out, ← hbb]; rfl
          rw [← hbb]
          clear hbb
          cases b with
          | false =>
            have HT := Lib.hid (show famL (strB n l) (k + 1) = [(k : Int)] by rw [HS.out, HE.out, hs]; rfl)
            have HFF := Lib.hid (show ∃ t, famL (strB n l) F = (k : Int) :: t by
              obtain ⟨d, hd⟩ : ∃ d, F = k + 1 + d := ⟨F - (k + 1), by omega⟩
              have : ∀ d, ∃ t, famL (strB n l) (k + 1 + d) = (k : Int) :: t := fun d => by
                induction d with
                | zero => exact ⟨[], HT.out⟩
                | succ d ih =>
                  obtain ⟨t, ht⟩ := ih
                  exact ⟨_, by rw [← Nat.add_assoc, famL_succ, ht]; rfl⟩
              rw [hd]; exact this d)
            clear hs
            go_wp2
            go_ret2
            obtain ⟨t, ht⟩ := HFF.out
            exact ⟨by rw [HN.out, ht]; rfl, HCB3.out⟩
          | true =>
            have HT := Lib.hid (show famL (strB n l) (k + 1) = [] by rw [HS.out, HE.out, hs]; rfl)
            clear hs
            go_wp2
            go_roundw
            case rel => exact ⟨k + 1, by omega, by omega, by go_num, HT.out, HB3.out⟩
            case measure => simp [intOf]; omega
        · have d1 : ((L : Int) == 1) = false := by rw [beq_eq_false_iff_ne]; omega
          have hs : strB n l k = false := by rw [HSB.out, decide_eq_false h1]; rfl
          clear h1 c0 c1 hz
          have HT := Lib.hid (show famL (strB n l) (k + 1) = [] by rw [HS.out, HE.out, hs]; rfl)
          clear hs
          go_wp2
          go_roundw
          case rel => exact ⟨k + 1, by omega, by omega, by go_num, HT.out, HB3.out⟩
          case measure => simp [intOf]; omega
      · obtain rfl : k = F := by omega
        go_wp2
        go_ret2
        exact ⟨by rw [HN.out, HE.out]; rfl, HCB2.out⟩
  · have HNO := Lib.hid hg
    have HN := Lib.hid (show famR n l (strB n l) = [] by unfold famR; rw [if_neg hg])
    clear hg
    go_enter Try.func52, Try.ntmps52
    go_wp2
    go_loopw [4] (fun i wr => i = .int .i64 1 ∧ Below (w.heap.size + 1) (w.alloc (.cells #[.int .i64 n, .slice a l.length cap] 27)) wr) (fun _ _ => 0)
    case atStart => exact ⟨rfl, Below.refl _ _⟩
    case round =>
      obtain ⟨rfl, hbel⟩ := hrel
      obtain ⟨c0, c1, cI, cB, hz⟩ := HA.out _ hbel
      have HCI := Lib.hid cI
      have HCB := Lib.hid cB
      clear hbel cI cB
      go_wp2_with fail
      refine (specIsG_any n _ l _ HCI.out).mono ?_
      rintro e wa ⟨r, rfl, hr, hb⟩
      obtain rfl : r = false := by
        cases r with
        | false => rfl
        | true => exact absurd (hr.1 rfl) HNO.out
      have HCB2 := Lib.hid (HCB.out.trans (hb.mono HCB.out.size))
      clear hb hr
      go_wp2
      go_ret2
      exact ⟨by rw [HN.out]; rfl, HCB2.out⟩

end Go.Proofs.Ytbgkceekkinngac
