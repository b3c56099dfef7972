/- CoverOf. -/
import Derived.Test.YtbgkceekkinngaaE1
import Derived.Laws.EntriesVeiled
namespace Go.Proofs.Ytbgkceekkinngaa
set_option linter.unusedVariables false
set_option linter.unusedSimpArgs false
open Go.RowKit

def covB (n : Int) (l : List Int) (x : Nat) : Bool := decide (CoverS n l (x : Int))

set_option maxRecDepth 100000 in
theorem enters_cov : Enters 65 := fun args W => by rfl

set_option maxHeartbeats 1000000 in
theorem rule_cov (q : Nat) (n : Int) (v : Value) (l : List Int) (m : Nat) (W0 : World) (hb : BoxG q n v W0) (hI : Ints W0 v l) :
    Rule1 65 #[.pointer (some ⟨q, 0, none⟩)] m (covB n l) W0 := by
  intro W x hx hbel
  obtain ⟨c0, c1, cz⟩ := hb.keep (below_grown hbel) (by simp)
  obtain ⟨a, cap, rfl, -, -⟩ := hI.form
  have HI := Lib.hid (hI.on hbel)
  clear hb hI hbel hx
  show Calls Try.prog 65 #[.int .i64 x, .pointer (some ⟨q, 0, none⟩)] W _
  go_enter Try.func65, Try.ntmps65
  go_wp2_with fail
  refine ((implCover n _ l x _ HI.out).mono fun _ _ h => h.dec).mono ?_
  rintro e w1 ⟨rfl, hb⟩
  have HB := Lib.hid hb
  clear hb
  obtain ⟨b, hbb⟩ : ∃ b, b = decide (CoverS n l x) := ⟨_, rfl⟩
  have HE := Lib.hid hbb
  rw [← hbb]
  clear hbb
  go_wp2
  go_ret
  exact ⟨by rw [HE.out]; rfl, HB.out⟩

set_option maxHeartbeats 2000000 in
set_option maxRecDepth 100000 in
theorem implCoverOf (n : Int) (v : Value) (l : List Int) (w : World) (h : Ints w v l) :
    Calls Try.prog 37 #[.agg #[.int .i64 n, v]] w (SaysN (fewU (famR n l (covB n l))) w) := by
  obtain ⟨a, cap, rfl, -, -⟩ := h.form
  have hmf : ∀ (fn : Fn) (first cap : Array Value) (w : World), (Instr.makeFunc fn first cap).run Try.prog w = .ok (.func fn first cap) w := fun _ _ _ _ => rfl
  have BX := Lib.hid ((BoxG.new w 28 n (.slice a l.length cap) ⟨_, _, _, rfl⟩).keep (grown_alloc _ (.cells #[.int .i64 n, .slice a l.length cap, .func (.func 65) #[] #[.pointer (some ⟨w.heap.size, 0, none⟩)]] 41) none) (by simp))
  have II := Lib.hid ((h.alloc (.cells #[.int .i64 n, .slice a l.length cap] 28)).alloc (.cells #[.int .i64 n, .slice a l.length cap, .func (.func 65) #[] #[.pointer (some ⟨w.heap.size, 0, none⟩)]] 41))
  have BB := Lib.hid (((Below.refl _ w).alloc (Nat.le_refl _) (.cells #[.int .i64 n, .slice a l.length cap] 28)).alloc (by simp) (.cells #[.int .i64 n, .slice a l.length cap, .func (.func 65) #[] #[.pointer (some ⟨w.heap.size, 0, none⟩)]] 41))
  clear h
  go_enter Try.func37, Try.ntmps37
  go_wp2_with fail
  refine (sets_any 65 #[.pointer (some ⟨w.heap.size, 0, none⟩)] (covB n l) n _ l _ II.out enters_cov (fun _ => rule_cov w.heap.size n _ l _ _ BX.out II.out)).mono ?_
  rintro e w2 ⟨v2, rfl, ho, hb⟩
  obtain ⟨a2, cap2, rfl, -, -⟩ := ho.ints.form
  have HO := Lib.hid ho.ints
  have HB := Lib.hid (BB.out.trans (hb.mono BB.out.size))
  clear ho hb hmf
  go_wp2_with fail
  refine (implFewest _ _ _ HO.out (famR_length _ _ _)).mono ?_
  rintro e w3 ⟨rfl, hb⟩
  have HB3 := Lib.hid (HB.out.trans (hb.mono HB.out.size))
  clear hb
  go_wp2
  go_ret
  exact ⟨rfl, HB3.out⟩

set_option maxHeartbeats 2000000 in
set_option maxRecDepth 100000 in
theorem specCoverOf (n : Int) (v : Value) (l : List Int) (w : World) (h : Ints w v l) :
    Calls Try.prog 36 #[.agg #[.int .i64 n, v]] w (SaysN (fewU (famR n l (covB n l))) w) := by
  obtain ⟨a, cap, rfl, -, -⟩ := h.form
  have HA := argG' (T := 28) (n := n) h
  clear h
  by_cases hg : IsG n l
  · have HG := Lib.hid hg
    have hn1 := hg.1
    have hn7 := hg.2.1
    obtain ⟨F, hF⟩ : ∃ F, F = 2 ^ l.length := ⟨_, rfl⟩
    obtain ⟨N, eN, hN0⟩ : ∃ N, (2 : Int) ^ n.toNat = N ∧ N = (F : Int) := ⟨_, rfl, by rw [hF]; exact (full_cast hg).2.2.2.1⟩
    have hF2 : F ≤ 128 := by rw [hF]; exact (full_cast hg).2.1
    have hF1 : 0 < F := by rw [hF]; exact (full_cast hg).2.2.1
    have HN := Lib.hid (show famR n l (covB n l) = famL (covB n l) F by unfold famR; rw [if_pos hg, hF])
    have HF := Lib.hid hF
    subst hN0
    have q6 : IntKind.i64.wrap (1 * (F : Int)) = (F : Int) := IntWalk.i64_in _ (by omega) |>.trans (by omega)
    clear hg hF
    go_enter Try.func36, Try.ntmps36
    go_wp2
    go_loopw [3, 4] (fun c i wr => ∃ (k : Nat) (s : Int), k ≤ F ∧ i = .int .i64 k ∧ c = .int .i64 s ∧ Hid (s = fewU (famL (covB n l) k)) ∧ Below (w.heap.size + 1) (w.alloc (.cells #[.int .i64 n, .slice a l.length cap] 28)) wr) (fun _ i _ => F - (intOf i).toNat)
    case atStart => exact ⟨0, -1, by omega, rfl, rfl, rfl, Below.refl _ _⟩
    case round =>
      obtain ⟨k, s, hk, rfl, rfl, HE, hbel⟩ := hrel
      obtain ⟨c0, c1, cI, cB, hz⟩ := HA.out _ hbel
      have HBL := Lib.hid hbel
      have HCI := Lib.hid cI
      clear hbel cI cB
      go_wp2_with fail
      refine (specIsG_any n _ l _ HCI.out).mono ?_
      rintro e wa ⟨r, rfl, hr, hb⟩
      obtain rfl : r = true := hr.2 HG.out
      have HB2 := Lib.hid (HBL.out.trans (hb.mono hz))
      clear hb hr c0 c1 hz HCI
      obtain ⟨c0, c1, cI, cB, hz⟩ := HA.out _ HB2.out
      have HCI := Lib.hid cI
      have HCB2 := Lib.hid cB
      clear cI cB
      by_cases hlt : k < F
      · have HS := Lib.hid (famL_succ (covB n l) k)
        go_wp2_with fail
        refine ((specCover n _ l k _ HCI.out).mono fun _ _ h => h.dec).mono ?_
        rintro e wb ⟨rfl, hb⟩
        have HB3 := Lib.hid (HB2.out.trans (hb.mono hz))
        clear hb c0 c1 hz
        by_cases hs : CoverS n l k
        · have HT := Lib.hid (show fewU (famL (covB n l) (k + 1)) = fewF s k by rw [HS.out, HE.out]; simp only [covB, hs, decide_true, if_true]; exact few_snoc _ _)
          have d1 : decide (CoverS n l k) = true := by simp [hs]
          rw [d1]
          clear hs d1
          by_cases h0 : s < 0
          · have d0 : decide (s < 0) = true := decide_eq_true h0
            have HT2 := Lib.hid (show (k : Int) = fewU (famL (covB n l) (k + 1)) by rw [HT.out]; unfold fewF; rw [if_pos (Or.inl h0)])
            clear h0
            go_wp2
            go_roundw
            case rel => exact ⟨k + 1, k, by omega, by go_num, rfl, HT2.out, HB3.out⟩
            case measure => simp [intOf]; omega
          · have d0 : decide (s < 0) = false := decide_eq_false h0
            have H0 := Lib.hid h0
            clear h0
            go_wp2_with fail
            refine (specCountSet _ _).mono ?_
            rintro e wc ⟨rfl, hb⟩
            have HB4 := Lib.hid (HB3.out.trans (hb.mono (HA.out _ HB3.out).2.2.2.2))
            clear hb
            go_wp2_with fail
            refine (specCountSet _ _).mono ?_
            rintro e wd ⟨rfl, hb⟩
            have HB5 := Lib.hid (HB4.out.trans (hb.mono (HA.out _ HB4.out).2.2.2.2))
            clear hb
            by_cases hp : popU (k : Int) < popU s
            · have d2 : decide (popU (k : Int) < popU s) = true := decide_eq_true hp
              have HT2 := Lib.hid (show (k : Int) = fewU (famL (covB n l) (k + 1)) by rw [HT.out]; unfold fewF; rw [if_pos (Or.inr hp)])
              clear hp
              go_wp2
              go_roundw
              case rel => exact ⟨k + 1, k, by omega, by go_num, rfl, HT2.out, HB5.out⟩
              case measure => simp [intOf]; omega
            · have d2 : decide (popU (k : Int) < popU s) = false := decide_eq_false hp
              have HT2 := Lib.hid (show s = fewU (famL (covB n l) (k + 1)) by rw [HT.out]; unfold fewF; rw [if_neg (fun h => h.elim (fun h => by have := H0.out; omega) hp)])
              clear hp
              go_wp2
              go_roundw
              case rel => exact ⟨k + 1, s, by omega, by go_num, rfl, HT2.out, HB5.out⟩
              case measure => simp [intOf]; omega
        · have HT := Lib.hid (show s = fewU (famL (covB n l) (k + 1)) by rw [HS.out, HE.out]; simp [covB, hs])
          have d1 : decide (CoverS n l k) = false := by simp [hs]
          rw [d1]
          clear hs d1
          go_wp2
          go_roundw
          case rel => exact ⟨k + 1, s, by omega, by go_num, rfl, HT.out, HB3.out⟩
          case measure => simp [intOf]; omega
      · obtain rfl : k = F := by omega
        go_wp2
        go_ret
        exact ⟨by rw [HN.out, ← HE.out]; rfl, HCB2.out⟩
  · have HNO := Lib.hid hg
    have HN := Lib.hid (show famR n l (covB n l) = [] by unfold famR; rw [if_neg hg])
    clear hg
    go_enter Try.func36, Try.ntmps36
    go_wp2
    go_loopw [3, 4] (fun x y wr => y = .int .i64 0 ∧ x = .int .i64 (-1) ∧ Below (w.heap.size + 1) (w.alloc (.cells #[.int .i64 n, .slice a l.length cap] 28)) wr) (fun _ _ _ => 0)
    case atStart => exact ⟨rfl, rfl, Below.refl _ _⟩
    case round =>
      obtain ⟨rfl, rfl, hbel⟩ := hrel
      obtain ⟨c0, c1, cI, cB, hz⟩ := HA.out _ hbel
      have HCI := Lib.hid cI
      have HCB := Lib.hid cB
      clear hbel cI cB
      go_wp2_with fail
      refine (specIsG_any n _ l _ HCI.out).mono ?_
      rintro e wa ⟨r, rfl, hr, hb⟩
      obtain rfl : r = false := by
        cases r with
        | false => rfl
        | true => exact absurd (hr.1 rfl) HNO.out
      have HCB2 := Lib.hid (HCB.out.trans (hb.mono HCB.out.size))
      clear hb hr
      go_wp2
      go_ret
      exact ⟨by rw [HN.out]; rfl, HCB2.out⟩

end Go.Proofs.Ytbgkceekkinngaa
