/- LargestClique, CliqueNumber. -/
import Derived.Test.YtgfndgjabhabjabMw
import Derived.Test.YtgfndgjabhabjabMt
import Derived.Test.YtgfndgjabhabjabV4
namespace Go.Proofs.Ytgfndgjabhabjab
set_option linter.unusedVariables false
set_option linter.unusedSimpArgs false
open Go.RowKit

set_option maxHeartbeats 2000000 in
set_option maxRecDepth 100000 in
theorem specLarge (n : Int) (v : Value) (l : List Int) (w : World) (h : Ints w v l) :
    Calls Try.prog 32 #[.agg #[.int .i64 n, v]] w (SaysN (bigR n l (cliB n l)) w) := by
  obtain ⟨a, cap, rfl, -, -⟩ := h.form
  have HA := argG' (T := 28) (n := n) h
  clear h
  by_cases hg : IsG n l
  · have HG := Lib.hid hg
    have hn1 := hg.1
    have hn7 := hg.2.1
    obtain ⟨F, hF⟩ : ∃ F, F = 2 ^ l.length := ⟨_, rfl⟩
    obtain ⟨N, eN, hN0⟩ : ∃ N, (2 : Int) ^ n.toNat = N ∧ N = (F : Int) := ⟨_, rfl, by rw [hF]; exact (full_cast hg).2.2.2.1⟩
    have hF2 : F ≤ 128 := by rw [hF]; exact (full_cast hg).2.1
    have hF1 : 0 < F := by rw [hF]; exact (full_cast hg).2.2.1
    have HN := Lib.hid (show bigR n l (cliB n l) = ((bestN (cliB n l) F : Nat) : Int) by unfold bigR; rw [if_pos hg, hF])
    subst hN0
    have q6 : IntKind.i64.wrap (1 * (F : Int)) = (F : Int) := IntWalk.i64_in _ (by omega) |>.trans (by omega)
    clear hg hF
    go_enter Try.func32, Try.ntmps32
    go_wp2
    go_loopw [3, 4] (fun s i wr => ∃ k : Nat, 1 ≤ k ∧ k ≤ F ∧ i = .int .i64 k ∧ s = .int .i64 ((bestN (cliB n l) k : Nat) : Int) ∧ Below (w.heap.size + 1) (w.alloc (.cells #[.int .i64 n, .slice a l.length cap] 28)) wr) (fun _ i _ => F - (intOf i).toNat)
    case atStart => exact ⟨1, by omega, by omega, rfl, rfl, Below.refl _ _⟩
    case round =>
      obtain ⟨k, hk0, hk, rfl, rfl, hbel⟩ := hrel
      obtain ⟨c0, c1, cI, cB, hz⟩ := HA.out _ hbel
      have HBL := Lib.hid hbel
      have HCI := Lib.hid cI
      clear hbel cI cB
      have hBle := bestN_le (cliB n l) k
      have HBS := Lib.hid (show bestN (cliB n l) (k + 1) = if popN (bestN (cliB n l) k) < popN k ∧ cliB n l k = true then k else bestN (cliB n l) k from rfl)
      obtain ⟨b0, hb0⟩ : ∃ b0, b0 = bestN (cliB n l) k := ⟨_, rfl⟩
      have HB0 := Lib.hid hb0
      rw [← hb0] at hBle HBS ⊢
      clear hb0
      go_wp2_with fail
      refine (specIsG_any n _ l _ HCI.out).mono ?_
      rintro e wa ⟨r, rfl, hr, hb⟩
      obtain rfl : r = true := hr.2 HG.out
      have HB2 := Lib.hid (HBL.out.trans (hb.mono hz))
      clear hb hr c0 c1 hz HCI
      obtain ⟨c0, c1, -, cB, hz⟩ := HA.out _ HB2.out
      have HCB2 := Lib.hid cB
      clear cB
      by_cases hlt : k < F
      · go_wp2_with fail
        refine (specCountSet (k : Int) _).mono ?_
        rintro e wb ⟨rfl, hb⟩
        have HB3 := Lib.hid (HB2.out.trans (hb.mono hz))
        clear hb c0 c1 hz
        obtain ⟨c0, c1, -, -, hz⟩ := HA.out _ HB3.out
        rw [popU_popM k (by omega)]
        go_wp2_with fail
        refine (specCountSet (b0 : Int) _).mono ?_
        rintro e wc ⟨rfl, hb⟩
        have HB4 := Lib.hid (HB3.out.trans (hb.mono hz))
        clear hb c0 c1 hz
        obtain ⟨c0, c1, cI, -, hz⟩ := HA.out _ HB4.out
        have HCI := Lib.hid cI
        clear cI
        rw [popU_popM b0 (by omega)]
        obtain ⟨p1, hp1⟩ : ∃ p1, p1 = popN k := ⟨_, rfl⟩
        obtain ⟨p0, hp0⟩ : ∃ p0, p0 = popN b0 := ⟨_, rfl⟩
        rw [← hp0, ← hp1] at HBS
        rw [← hp0, ← hp1]
        clear hp0 hp1
        by_cases hgt : p0 < p1
        · have d0 : decide ((p0 : Int) < (p1 : Int)) = true := decide_eq_true (by omega)
          have d0' : decide (p0 < p1) = true := decide_eq_true hgt
          have HGT := Lib.hid hgt
          clear hgt
          go_wp2_with fail
          refine ((specClique n _ l k _ HCI.out).mono fun _ _ h => h.dec).mono ?_
          rintro e wd ⟨rfl, hb⟩
          have HB5 := Lib.hid (HB4.out.trans (hb.mono hz))
          clear hb c0 c1 hz d0 d0'
          by_cases hs : CliqueS n l k
          · have HT := Lib.hid (show bestN (cliB n l) (k + 1) = k by rw [HBS.out, if_pos ⟨HGT.out, by unfold cliB; exact decide_eq_true hs⟩])
            have d1 : decide (CliqueS n l k) = true := by simp [hs]
            rw [d1]
            clear hs d1
            go_wp2
            go_roundw
            case rel => exact ⟨k + 1, by omega, by omega, by go_num, by rw [HT.out], HB5.out⟩
            case measure => simp [intOf]; omega
          · have HT := Lib.hid (show bestN (cliB n l) (k + 1) = b0 by rw [HBS.out, if_neg (fun h => hs (by have := h.2; unfold cliB at this; exact of_decide_eq_true this))])
            have d1 : decide (CliqueS n l k) = false := by simp [hs]
            rw [d1]
            clear hs d1
            go_wp2
            go_roundw
            case rel => exact ⟨k + 1, by omega, by omega, by go_num, by rw [HT.out], HB5.out⟩
            case measure => simp [intOf]; omega
        · have d0 : decide ((p0 : Int) < (p1 : Int)) = false := decide_eq_false (by omega)
          have d0' : decide (p0 < p1) = false := decide_eq_false hgt
          have HT := Lib.hid (show bestN (cliB n l) (k + 1) = b0 by rw [HBS.out, if_neg (fun h => hgt h.1)])
          clear hgt
          go_wp2
          go_roundw
          case rel => exact ⟨k + 1, by omega, by omega, by go_num, by rw [HT.out], HB4.out⟩
          case measure => simp [intOf]; omega
      · obtain rfl : k = F := by omega
        have HE := Lib.hid (show (b0 : Int) = bigR n l (cliB n l) by rw [HN.out, HB0.out])
        go_wp2
        go_ret
        exact ⟨congrArg (fun z => Ending.returned (Value.int .i64 z)) HE.out, HCB2.out⟩
  · have HNO := Lib.hid hg
    have HN := Lib.hid (show (0 : Int) = bigR n l (cliB n l) by unfold bigR; rw [if_neg hg])
    clear hg
    go_enter Try.func32, Try.ntmps32
    go_wp2
    go_loopw [3, 4] (fun s i wr => i = .int .i64 1 ∧ s = .int .i64 0 ∧ Below (w.heap.size + 1) (w.alloc (.cells #[.int .i64 n, .slice a l.length cap] 28)) wr) (fun _ _ _ => 0)
    case atStart => exact ⟨rfl, rfl, Below.refl _ _⟩
    case round =>
      obtain ⟨rfl, rfl, hbel⟩ := hrel
      obtain ⟨c0, c1, cI, cB, hz⟩ := HA.out _ hbel
      have HCI := Lib.hid cI
      have HCB := Lib.hid cB
      clear hbel cI cB
      go_wp2_with fail
      refine (specIsG_any n _ l _ HCI.out).mono ?_
      rintro e wa ⟨r, rfl, hr, hb⟩
      obtain rfl : r = false := by
        cases r with
        | false => rfl
        | true => exact absurd (hr.1 rfl) HNO.out
      have HCB2 := Lib.hid (HCB.out.trans (hb.mono HCB.out.size))
      clear hb hr
      go_wp2
      go_ret
      exact ⟨congrArg (fun z => Ending.returned (Value.int .i64 z)) HN.out, HCB2.out⟩


set_option maxHeartbeats 1000000 in
set_option maxRecDepth 100000 in
theorem implLarge (n : Int) (v : Value) (l : List Int) (w : World) (h : Ints w v l) :
    Calls Try.prog 33 #[.agg #[.int .i64 n, v]] w (SaysN (bigR n l (cliB n l)) w) := by
  obtain ⟨a, cap, rfl, -, -⟩ := h.form
  have HA := argG' (T := 28) (n := n) h
  have HI := Lib.hid h
  have HM := Lib.hid (most_is n l)
  clear h
  go_enter Try.func33, Try.ntmps33
  go_wp2_with fail
  refine (implMax n _ l _ (HI.out.alloc _)).mono ?_
  rintro e w1 ⟨u, rfl, ho, hb⟩
  have HB := Lib.hid (hb.mono (B' := w.heap.size + 1) (by simp))
  have HO := Lib.hid ho
  obtain ⟨-, -, -, cB, hz⟩ := HA.out _ HB.out
  have HCB := Lib.hid cB
  clear ho hb cB
  go_wp2_with fail
  refine (implMost u (maxR n l) _ HO.out.ints (maxR_length n l)).mono ?_
  rintro e w2 ⟨rfl, hb⟩
  have HCB2 := Lib.hid (HCB.out.trans (hb.mono HCB.out.size))
  clear hb
  rw [HM.out]
  go_wp2
  go_ret
  exact ⟨rfl, HCB2.out⟩

/-- How many vertices the greatest clique has. -/
def cnumR (n : Int) (l : List Int) : Int := if IsG n l then popU (bigR n l (cliB n l)) else -1

set_option maxHeartbeats 1000000 in
set_option maxRecDepth 100000 in
theorem implCnum (n : Int) (v : Value) (l : List Int) (w : World) (h : Ints w v l) :
    Calls Try.prog 35 #[.agg #[.int .i64 n, v]] w (SaysN (cnumR n l) w) := by
  obtain ⟨a, cap, rfl, -, -⟩ := h.form
  have HA := argG' (T := 28) (n := n) h
  have HI := Lib.hid h
  clear h
  go_enter Try.func35, Try.ntmps35
  go_wp2_with fail
  refine (implIsG_any n _ l _ (HI.out.alloc _)).mono ?_
  rintro e w1 ⟨r, rfl, hr, hb⟩
  have HB := Lib.hid (hb.mono (B' := w.heap.size + 1) (by simp))
  obtain ⟨c0, c1, cI, cB, hz⟩ := HA.out _ HB.out
  have HCB := Lib.hid cB
  have HCI := Lib.hid cI
  clear hb cB cI
  cases r with
  | false =>
    have HE := Lib.hid (show (-1 : Int) = cnumR n l by unfold cnumR; rw [if_neg (fun h => by have := hr.2 h; cases this)])
    clear hr
    go_wp2
    go_ret
    exact ⟨congrArg (fun z => Ending.returned (Value.int .i64 z)) HE.out, HCB.out⟩
  | true =>
    have HE := Lib.hid (show popU (bigR n l (cliB n l)) = cnumR n l by unfold cnumR; rw [if_pos (hr.1 rfl)])
    clear hr
    go_wp2_with fail
    refine (implLarge n _ l _ HCI.out).mono ?_
    rintro e w2 ⟨rfl, hb⟩
    have HCB2 := Lib.hid (HCB.out.trans (hb.mono HCB.out.size))
    clear hb c0 c1
    go_wp2_with fail
    refine (implCountSet _ _).mono ?_
    rintro e w3 ⟨rfl, rfl⟩
    rw [HE.out]
    go_wp2
    go_ret
    exact ⟨rfl, HCB2.out⟩

set_option maxHeartbeats 1000000 in
set_option maxRecDepth 100000 in
theorem specCnum (n : Int) (v : Value) (l : List Int) (w : World) (h : Ints w v l) :
    Calls Try.prog 34 #[.agg #[.int .i64 n, v]] w (SaysN (cnumR n l) w) := by
  obtain ⟨a, cap, rfl, -, -⟩ := h.form
  have HA := argG' (T := 28) (n := n) h
  have HI := Lib.hid h
  clear h
  go_enter Try.func34, Try.ntmps34
  go_wp2_with fail
  refine (specIsG_any n _ l _ (HI.out.alloc _)).mono ?_
  rintro e w1 ⟨r, rfl, hr, hb⟩
  have HB := Lib.hid (hb.mono (B' := w.heap.size + 1) (by simp))
  obtain ⟨c0, c1, cI, cB, hz⟩ := HA.out _ HB.out
  have HCB := Lib.hid cB
  have HCI := Lib.hid cI
  clear hb cB cI
  cases r with
  | false =>
    have HE := Lib.hid (show (-1 : Int) = cnumR n l by unfold cnumR; rw [if_neg (fun h => by have := hr.2 h; cases this)])
    clear hr
    go_wp2
    go_ret
    exact ⟨congrArg (fun z => Ending.returned (Value.int .i64 z)) HE.out, HCB.out⟩
  | true =>
    have HE := Lib.hid (show popU (bigR n l (cliB n l)) = cnumR n l by unfold cnumR; rw [if_pos (hr.1 rfl)])
    clear hr
    go_wp2_with fail
    refine (specLarge n _ l _ HCI.out).mono ?_
    rintro e w2 ⟨rfl, hb⟩
    have HCB2 := Lib.hid (HCB.out.trans (hb.mono HCB.out.size))
    clear hb c0 c1
    go_wp2_with fail
    refine (specCountSet _ _).mono ?_
    rintro e w3 ⟨rfl, hb⟩
    have HCB3 := Lib.hid (HCB2.out.trans (hb.mono HCB2.out.size))
    clear hb
    rw [HE.out]
    go_wp2
    go_ret
    exact ⟨rfl, HCB3.out⟩

end Go.Proofs.Ytgfndgjabhabjab
