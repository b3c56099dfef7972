/- FewestDominating, LargestPacking, DominationGap. -/
import Derived.Test.YtbgkceekkinngaaE1
import Derived.Test.YtbgkceekkinngaaE3
import Derived.Laws.EntriesVeiled
namespace Go.Proofs.Ytbgkceekkinngaa
set_option linter.unusedVariables false
set_option linter.unusedSimpArgs false
open Go.RowKit

/-- A method of a choice that answers by r. -/
def Asks (f : FuncId) (n : Int) (v : Value) (m : Nat) (r : Nat → Bool) (W0 : World) : Prop :=
  ∀ W (x : Nat), x < m → Below W0.heap.size W0 W → Calls Try.prog f #[.agg #[.int .i64 n, v, .int .i64 x]] W fun e W' => e = .returned (.bool (r x)) ∧ Below W.heap.size W W'

set_option maxRecDepth 100000 in
theorem enters_choice : Enters 77 := fun args W => by rfl

set_option maxHeartbeats 1000000 in
theorem rule_choice (f : FuncId) (he : Enters f) (q p : Nat) (n : Int) (v : Value) (m : Nat) (r : Nat → Bool) (W0 : World) (hv : ∃ a len cap, v = .slice a len cap) (hb : BoxG q n v W0) (hp : W0.cell? ⟨p, 0, none⟩ = some (.func (.func f) #[] #[])) (hpz : p < W0.heap.size) (hr : Asks f n v m r W0) :
    Rule1 77 #[.pointer (some ⟨p, 0, none⟩), .pointer (some ⟨q, 0, none⟩)] m r W0 := by
  intro W x hx hbel
  obtain ⟨c0, c1, cz⟩ := hb.keep (below_grown hbel) (by simp)
  have cp := (hbel.cell (p := ⟨p, 0, none⟩) hpz).trans hp
  obtain ⟨a, len, cap, rfl⟩ := hv
  have HR := Lib.hid (hr W x hx hbel)
  clear hb hbel hx hr hp hpz
  unfold Enters at he
  show Calls Try.prog 77 #[.int .i64 x, .pointer (some ⟨p, 0, none⟩), .pointer (some ⟨q, 0, none⟩)] W _
  go_enter Try.func77, Try.ntmps77
  go_wp2_with fail
  refine HR.out.mono ?_
  rintro e w1 ⟨rfl, hb⟩
  have HB := Lib.hid hb
  clear hb
  go_wp2
  go_ret
  exact ⟨rfl, HB.out⟩

set_option maxHeartbeats 2000000 in
set_option maxRecDepth 100000 in
theorem choicesThat_any (f : FuncId) (he : Enters f) (r : Nat → Bool) (n : Int) (v : Value) (l : List Int) (w : World) (h : Ints w v l) (hr : IsG n l → ∀ W, Ints W v l → Below w.heap.size w W → Asks f n v (2 ^ l.length) r W) :
    Calls Try.prog 55 #[.agg #[.int .i64 n, v], .func (.func f) #[] #[]] w (GetsI w.heap.size w (famR n l r)) := by
  obtain ⟨a, cap, rfl, -, -⟩ := h.form
  have hmf : ∀ (fn : Fn) (first cap : Array Value) (w : World), (Instr.makeFunc fn first cap).run Try.prog w = .ok (.func fn first cap) w := fun _ _ _ _ => rfl
  obtain ⟨o1, ho1⟩ : ∃ o : Obj, o = .cells #[.int .i64 n, .slice a l.length cap] 28 := ⟨_, rfl⟩
  obtain ⟨o2, ho2⟩ : ∃ o : Obj, o = .cells #[.func (.func f) #[] #[]] 52 := ⟨_, rfl⟩
  obtain ⟨o3, ho3⟩ : ∃ o : Obj, o = .cells #[.int .i64 n, .slice a l.length cap, .func (.func 77) #[] #[.pointer (some ⟨w.heap.size + 1, 0, none⟩), .pointer (some ⟨w.heap.size, 0, none⟩)]] 41 := ⟨_, rfl⟩
  have BX := Lib.hid (show BoxG w.heap.size n (.slice a l.length cap) (((w.alloc o1).alloc o2).alloc o3) by
    rw [ho1]; exact ((BoxG.new w 28 n (.slice a l.length cap) ⟨_, _, _, rfl⟩).keep (grown_alloc _ o2 none) (by simp)).keep (grown_alloc _ o3 none) (by simp))
  have PX := Lib.hid (show (((w.alloc o1).alloc o2).alloc o3).cell? ⟨w.heap.size + 1, 0, none⟩ = some (.func (.func f) #[] #[]) by
    rw [((Below.refl _ ((w.alloc o1).alloc o2)).alloc (Nat.le_refl _) o3).cell (p := ⟨w.heap.size + 1, 0, none⟩) (by simp)]
    rw [ho2]; simp [go_sem])
  have II := Lib.hid (((h.alloc o1).alloc o2).alloc o3)
  have BB := Lib.hid ((((Below.refl _ w).alloc (Nat.le_refl _) o1).alloc (by simp) o2).alloc (by simp; omega) o3)
  have HR := Lib.hid (fun hg : IsG n l => hr hg _ II.out BB.out)
  clear h hr
  go_enter Try.func55, Try.ntmps55
  go_wp2_with fail
  rw [← ho1, ← ho2, ← ho3]
  refine (sets_any 77 _ r n _ l _ II.out enters_choice (fun hg => rule_choice f he w.heap.size (w.heap.size + 1) n _ _ r _ ⟨_, _, _, rfl⟩ BX.out PX.out (by simp) (HR.out hg))).mono ?_
  rintro e w2 ⟨v2, rfl, ho, hb⟩
  have HO := Lib.hid ho
  have HB := Lib.hid (BB.out.trans (hb.mono BB.out.size))
  clear ho hb hmf ho1 ho2 ho3
  go_wp2
  go_ret
  exact ⟨_, rfl, HO.out.mono BB.out.size, HB.out⟩

def domB (n : Int) (l : List Int) (x : Nat) : Bool := decide (DomS n l (x : Int))

def packB (n : Int) (l : List Int) (x : Nat) : Bool := decide (PackS n l (x : Int))

set_option maxRecDepth 100000 in
theorem enters_dom : Enters 52 := fun args W => by rfl

set_option maxRecDepth 100000 in
theorem enters_pack : Enters 56 := fun args W => by rfl

theorem asks_dom {n : Int} {v : Value} {l : List Int} {W : World} (h : Ints W v l) : Asks 52 n v (2 ^ l.length) (domB n l) W :=
  fun W' x _ hb => (dominates_is n v l x W' (h.on hb)).mono fun _ _ h => h.dec

theorem asks_pack {n : Int} {v : Value} {l : List Int} {W : World} (h : Ints W v l) : Asks 56 n v (2 ^ l.length) (packB n l) W :=
  fun W' x _ hb => (isPacked_is n v l x W' (h.on hb)).mono fun _ _ h => h.dec

set_option maxHeartbeats 2000000 in
set_option maxRecDepth 100000 in
theorem implFewDom (n : Int) (v : Value) (l : List Int) (w : World) (h : Ints w v l) :
    Calls Try.prog 27 #[.agg #[.int .i64 n, v]] w (SaysN (fewU (famR n l (domB n l))) w) := by
  obtain ⟨a, cap, rfl, -, -⟩ := h.form
  have HI := Lib.hid h
  clear h
  go_enter Try.func27, Try.ntmps27
  go_wp2_with fail
  refine (choicesThat_any 52 enters_dom (domB n l) n _ l _ (HI.out.alloc _) (fun _ W hW _ => asks_dom hW)).mono ?_
  rintro e w2 ⟨v2, rfl, ho, hb⟩
  have HB := Lib.hid (((Below.refl _ w).alloc (Nat.le_refl _) _).trans (hb.mono (by simp)))
  have HO := Lib.hid ho.ints
  clear hb ho
  go_wp2_with fail
  refine (implFewest _ _ _ HO.out (famR_length _ _ _)).mono ?_
  rintro e w3 ⟨rfl, hb⟩
  have HB3 := Lib.hid (HB.out.trans (hb.mono HB.out.size))
  clear hb
  go_wp2
  go_ret
  exact ⟨rfl, HB3.out⟩

set_option maxHeartbeats 2000000 in
set_option maxRecDepth 100000 in
theorem implMosPack (n : Int) (v : Value) (l : List Int) (w : World) (h : Ints w v l) :
    Calls Try.prog 31 #[.agg #[.int .i64 n, v]] w (SaysN (mosU (famR n l (packB n l))) w) := by
  obtain ⟨a, cap, rfl, -, -⟩ := h.form
  have HI := Lib.hid h
  clear h
  go_enter Try.func31, Try.ntmps31
  go_wp2_with fail
  refine (choicesThat_any 56 enters_pack (packB n l) n _ l _ (HI.out.alloc _) (fun _ W hW _ => asks_pack hW)).mono ?_
  rintro e w2 ⟨v2, rfl, ho, hb⟩
  have HB := Lib.hid (((Below.refl _ w).alloc (Nat.le_refl _) _).trans (hb.mono (by simp)))
  have HO := Lib.hid ho.ints
  clear hb ho
  go_wp2_with fail
  refine (implMost _ _ _ HO.out (famR_length _ _ _)).mono ?_
  rintro e w3 ⟨rfl, hb⟩
  have HB3 := Lib.hid (HB.out.trans (hb.mono HB.out.size))
  clear hb
  go_wp2
  go_ret
  exact ⟨rfl, HB3.out⟩

set_option maxHeartbeats 2000000 in
set_option maxRecDepth 100000 in
theorem specFewDom (n : Int) (v : Value) (l : List Int) (w : World) (h : Ints w v l) :
    Calls Try.prog 26 #[.agg #[.int .i64 n, v]] w (SaysN (fewU (famR n l (domB n l))) w) := by
  obtain ⟨a, cap, rfl, -, -⟩ := h.form
  have HA := argG' (T := 28) (n := n) h
  clear h
  by_cases hg : IsG n l
  · have HG := Lib.hid hg
    have hn1 := hg.1
    have hn7 := hg.2.1
    obtain ⟨F, hF⟩ : ∃ F, F = 2 ^ l.length := ⟨_, rfl⟩
    obtain ⟨N, eN, hN0⟩ : ∃ N, (2 : Int) ^ n.toNat = N ∧ N = (F : Int) := ⟨_, rfl, by rw [hF]; exact (full_cast hg).2.2.2.1⟩
    have hF2 : F ≤ 128 := by rw [hF]; exact (full_cast hg).2.1
    have hF1 : 0 < F := by rw [hF]; exact (full_cast hg).2.2.1
    have HN := Lib.hid (show famR n l (domB n l) = famL (domB n l) F by unfold famR; rw [if_pos hg, hF])
    have HF := Lib.hid hF
    subst hN0
    have q6 : IntKind.i64.wrap (1 * (F : Int)) = (F : Int) := IntWalk.i64_in _ (by omega) |>.trans (by omega)
    clear hg hF
    go_enter Try.func26, Try.ntmps26
    go_wp2
    go_loopw [3, 4] (fun c i wr => ∃ (k : Nat) (s : Int), k ≤ F ∧ i = .int .i64 k ∧ c = .int .i64 s ∧ Hid (s = fewU (famL (domB n l) k)) ∧ Below (w.heap.size + 1) (w.alloc (.cells #[.int .i64 n, .slice a l.length cap] 28)) wr) (fun _ i _ => F - (intOf i).toNat)
    case atStart => exact ⟨0, -1, by omega, rfl, rfl, rfl, Below.refl _ _⟩
    case round =>
      obtain ⟨k, s, hk, rfl, rfl, HE, hbel⟩ := hrel
      obtain ⟨c0, c1, cI, cB, hz⟩ := HA.out _ hbel
      have HBL := Lib.hid hbel
      have HCI := Lib.hid cI
      clear hbel cI cB
      go_wp2_with fail
      refine (specIsG_any n _ l _ HCI.out).mono ?_
      rintro e wa ⟨r, rfl, hr, hb⟩
      obtain rfl : r = true := hr.2 HG.out
      have HB2 := Lib.hid (HBL.out.trans (hb.mono hz))
      clear hb hr c0 c1 hz HCI
      obtain ⟨c0, c1, cI, cB, hz⟩ := HA.out _ HB2.out
      have HCI := Lib.hid cI
      have HCB2 := Lib.hid cB
      clear cI cB
      by_cases hlt : k < F
      · have HS := Lib.hid (famL_succ (domB n l) k)
        go_wp2_with fail
        refine ((specDom n _ l k _ HCI.out).mono fun _ _ h => h.dec).mono ?_
        rintro e wb ⟨rfl, hb⟩
        have HB3 := Lib.hid (HB2.out.trans (hb.mono hz))
        clear hb c0 c1 hz
        by_cases hs : DomS n l k
        · have HT := Lib.hid (show fewU (famL (domB n l) (k + 1)) = fewF s k by rw [HS.out, HE.out]; simp only [domB, hs, decide_true, if_true]; exact few_snoc _ _)
          have d1 : decide (DomS n l k) = true := by simp [hs]
          rw [d1]
          clear hs d1
          by_cases h0 : s < 0
          · have d0 : decide (s < 0) = true := decide_eq_true h0
            have HT2 := Lib.hid (show (k : Int) = fewU (famL (domB n l) (k + 1)) by rw [HT.out]; unfold fewF; rw [if_pos (Or.inl h0)])
            clear h0
            go_wp2
            go_roundw
            case rel => exact ⟨k + 1, k, by omega, by go_num, rfl, HT2.out, HB3.out⟩
            case measure => simp [intOf]; omega
          · have d0 : decide (s < 0) = false := decide_eq_false h0
            have H0 := Lib.hid h0
            clear h0
            go_wp2_with fail
            refine (specCountSet _ _).mono ?_
            rintro e wc ⟨rfl, hb⟩
            have HB4 := Lib.hid (HB3.out.trans (hb.mono (HA.out _ HB3.out).2.2.2.2))
            clear hb
            go_wp2_with fail
            refine (specCountSet _ _).mono ?_
            rintro e wd ⟨rfl, hb⟩
            have HB5 := Lib.hid (HB4.out.trans (hb.mono (HA.out _ HB4.out).2.2.2.2))
            clear hb
            by_cases hp : popU (k : Int) < popU s
            · have d2 : decide (popU (k : Int) < popU s) = true := decide_eq_true hp
              have HT2 := Lib.hid (show (k : Int) = fewU (famL (domB n l) (k + 1)) by rw [HT.out]; unfold fewF; rw [if_pos (Or.inr hp)])
              clear hp
              go_wp2
              go_roundw
              case rel => exact ⟨k + 1, k, by omega, by go_num, rfl, HT2.out, HB5.out⟩
              case measure => simp [intOf]; omega
            · have d2 : decide (popU (k : Int) < popU s) = false := decide_eq_false hp
              have HT2 := Lib.hid (show s = fewU (famL (domB n l) (k + 1)) by rw [HT.out]; unfold fewF; rw [if_neg (fun h => h.elim (fun h => by have := H0.out; omega) hp)])
              clear hp
              go_wp2
              go_roundw
              case rel => exact ⟨k + 1, s, by omega, by go_num, rfl, HT2.out, HB5.out⟩
              case measure => simp [intOf]; omega
        · have HT := Lib.hid (show s = fewU (famL (domB n l) (k + 1)) by rw [HS.out, HE.out]; simp [domB, hs])
          have d1 : decide (DomS n l k) = false := by simp [hs]
          rw [d1]
          clear hs d1
          go_wp2
          go_roundw
          case rel => exact ⟨k + 1, s, by omega, by go_num, rfl, HT.out, HB3.out⟩
          case measure => simp [intOf]; omega
      · obtain rfl : k = F := by omega
        go_wp2
        go_ret
        exact ⟨by rw [HN.out, ← HE.out]; rfl, HCB2.out⟩
  · have HNO := Lib.hid hg
    have HN := Lib.hid (show famR n l (domB n l) = [] by unfold famR; rw [if_neg hg])
    clear hg
    go_enter Try.func26, Try.ntmps26
    go_wp2
    go_loopw [3, 4] (fun x y wr => y = .int .i64 0 ∧ x = .int .i64 (-1) ∧ Below (w.heap.size + 1) (w.alloc (.cells #[.int .i64 n, .slice a l.length cap] 28)) wr) (fun _ _ _ => 0)
    case atStart => exact ⟨rfl, rfl, Below.refl _ _⟩
    case round =>
      obtain ⟨rfl, rfl, hbel⟩ := hrel
      obtain ⟨c0, c1, cI, cB, hz⟩ := HA.out _ hbel
      have HCI := Lib.hid cI
      have HCB := Lib.hid cB
      clear hbel cI cB
      go_wp2_with fail
      refine (specIsG_any n _ l _ HCI.out).mono ?_
      rintro e wa ⟨r, rfl, hr, hb⟩
      obtain rfl : r = false := by
        cases r with
        | false => rfl
        | true => exact absurd (hr.1 rfl) HNO.out
      have HCB2 := Lib.hid (HCB.out.trans (hb.mono HCB.out.size))
      clear hb hr
      go_wp2
      go_ret
      exact ⟨by rw [HN.out]; rfl, HCB2.out⟩

set_option maxHeartbeats 2000000 in
set_option maxRecDepth 100000 in
theorem specMosPack (n : Int) (v : Value) (l : List Int) (w : World) (h : Ints w v l) :
    Calls Try.prog 30 #[.agg #[.int .i64 n, v]] w (SaysN (mosU (famR n l (packB n l))) w) := by
  obtain ⟨a, cap, rfl, -, -⟩ := h.form
  have HA := argG' (T := 28) (n := n) h
  clear h
  by_cases hg : IsG n l
  · have HG := Lib.hid hg
    have hn1 := hg.1
    have hn7 := hg.2.1
    obtain ⟨F, hF⟩ : ∃ F, F = 2 ^ l.length := ⟨_, rfl⟩
    obtain ⟨N, eN, hN0⟩ : ∃ N, (2 : Int) ^ n.toNat = N ∧ N = (F : Int) := ⟨_, rfl, by rw [hF]; exact (full_cast hg).2.2.2.1⟩
    have hF2 : F ≤ 128 := by rw [hF]; exact (full_cast hg).2.1
    have hF1 : 0 < F := by rw [hF]; exact (full_cast hg).2.2.1
    have HN := Lib.hid (show famR n l (packB n l) = famL (packB n l) F by unfold famR; rw [if_pos hg, hF])
    have HF := Lib.hid hF
    subst hN0
    have q6 : IntKind.i64.wrap (1 * (F : Int)) = (F : Int) := IntWalk.i64_in _ (by omega) |>.trans (by omega)
    clear hg hF
    have HZ := Lib.hid (show mosU (famL (packB n l) 1) = 0 by rw [famL_succ]; cases packB n l 0 <;> simp [famL, mosU, mosF])
    go_enter Try.func30, Try.ntmps30
    go_wp2
    go_loopw [3, 4] (fun c i wr => ∃ (k : Nat) (s : Int), 1 ≤ k ∧ k ≤ F ∧ i = .int .i64 k ∧ c = .int .i64 s ∧ Hid (s = mosU (famL (packB n l) k)) ∧ Below (w.heap.size + 1) (w.alloc (.cells #[.int .i64 n, .slice a l.length cap] 28)) wr) (fun _ i _ => F - (intOf i).toNat)
    case atStart => exact ⟨1, 0, by omega, by omega, rfl, rfl, HZ.out.symm, Below.refl _ _⟩
    case round =>
      obtain ⟨k, s, hk1, hk, rfl, rfl, HE, hbel⟩ := hrel
      obtain ⟨c0, c1, cI, cB, hz⟩ := HA.out _ hbel
      have HBL := Lib.hid hbel
      have HCI := Lib.hid cI
      clear hbel cI cB
      go_wp2_with fail
      refine (specIsG_any n _ l _ HCI.out).mono ?_
      rintro e wa ⟨r, rfl, hr, hb⟩
      obtain rfl : r = true := hr.2 HG.out
      have HB2 := Lib.hid (HBL.out.trans (hb.mono hz))
      clear hb hr c0 c1 hz HCI
      obtain ⟨c0, c1, cI, cB, hz⟩ := HA.out _ HB2.out
      have HCI := Lib.hid cI
      have HCB2 := Lib.hid cB
      clear cI cB
      by_cases hlt : k < F
      · have HS := Lib.hid (famL_succ (packB n l) k)
        go_wp2_with fail
        refine (specCountSet _ _).mono ?_
        rintro e wc ⟨rfl, hb⟩
        have HB4 := Lib.hid (HB2.out.trans (hb.mono hz))
        clear hb c0 c1 hz HCI
        obtain ⟨-, -, -, -, hz⟩ := HA.out _ HB4.out
        go_wp2_with fail
        refine (specCountSet _ _).mono ?_
        rintro e wd ⟨rfl, hb⟩
        have HB5 := Lib.hid (HB4.out.trans (hb.mono hz))
        clear hb hz
        obtain ⟨c0, c1, cI, -, hz⟩ := HA.out _ HB5.out
        have HCI := Lib.hid cI
        clear cI
        by_cases hp : popU s < popU (k : Int)
        · have d2 : decide (popU s < popU (k : Int)) = true := decide_eq_true hp
          have HP := Lib.hid hp
          clear hp
          go_wp2_with fail
          refine ((specPack n _ l k _ HCI.out).mono fun _ _ h => h.dec).mono ?_
          rintro e wb ⟨rfl, hb⟩
          have HB6 := Lib.hid (HB5.out.trans (hb.mono hz))
          clear hb c0 c1 hz
          by_cases hs : PackS n l k
          · have HT := Lib.hid (show (k : Int) = mosU (famL (packB n l) (k + 1)) by rw [HS.out]; simp only [packB, hs, decide_true, if_true]; rw [mos_snoc]; unfold mosF; rw [if_pos (by rw [← HE.out]; exact HP.out)])
            have d1 : decide (PackS n l k) = true := by simp [hs]
            rw [d1]
            clear hs d1
            go_wp2
            go_roundw
            case rel => exact ⟨k + 1, k, by omega, by omega, by go_num, rfl, HT.out, HB6.out⟩
            case measure => simp [intOf]; omega
          · have HT := Lib.hid (show s = mosU (famL (packB n l) (k + 1)) by rw [HS.out, HE.out]; simp [packB, hs])
            have d1 : decide (PackS n l k) = false := by simp [hs]
            rw [d1]
            clear hs d1
            go_wp2
            go_roundw
            case rel => exact ⟨k + 1, s, by omega, by omega, by go_num, rfl, HT.out, HB6.out⟩
            case measure => simp [intOf]; omega
        · have d2 : decide (popU s < popU (k : Int)) = false := decide_eq_false hp
          have HT := Lib.hid (show s = mosU (famL (packB n l) (k + 1)) by
            rw [HS.out]
            split
            · rw [mos_snoc]; unfold mosF; rw [if_neg (by rw [← HE.out]; exact hp)]; exact HE.out
            · rw [List.append_nil]; exact HE.out)
          clear hp c0 c1 hz
          go_wp2
          go_roundw
          case rel => exact ⟨k + 1, s, by omega, by omega, by go_num, rfl, HT.out, HB5.out⟩
          case measure => simp [intOf]; omega
      · obtain rfl : k = F := by omega
        go_wp2
        go_ret
        exact ⟨by rw [HN.out, ← HE.out]; rfl, HCB2.out⟩
  · have HNO := Lib.hid hg
    have HN := Lib.hid (show famR n l (packB n l) = [] by unfold famR; rw [if_neg hg])
    clear hg
    go_enter Try.func30, Try.ntmps30
    go_wp2
    go_loopw [3, 4] (fun x y wr => y = .int .i64 1 ∧ x = .int .i64 0 ∧ Below (w.heap.size + 1) (w.alloc (.cells #[.int .i64 n, .slice a l.length cap] 28)) wr) (fun _ _ _ => 0)
    case atStart => exact ⟨rfl, rfl, Below.refl _ _⟩
    case round =>
      obtain ⟨rfl, rfl, hbel⟩ := hrel
      obtain ⟨c0, c1, cI, cB, hz⟩ := HA.out _ hbel
      have HCI := Lib.hid cI
      have HCB := Lib.hid cB
      clear hbel cI cB
      go_wp2_with fail
      refine (specIsG_any n _ l _ HCI.out).mono ?_
      rintro e wa ⟨r, rfl, hr, hb⟩
      obtain rfl : r = false := by
        cases r with
        | false => rfl
        | true => exact absurd (hr.1 rfl) HNO.out
      have HCB2 := Lib.hid (HCB.out.trans (hb.mono HCB.out.size))
      clear hb hr
      go_wp2
      go_ret
      exact ⟨by rw [HN.out]; rfl, HCB2.out⟩

def gapR (n : Int) (l : List Int) : Int := if IsG n l then popU (fewU (famR n l (domB n l))) - popU (mosU (famR n l (packB n l))) else -1

theorem popU_bd (x : Int) : 0 ≤ popU x ∧ popU x ≤ 7 := by
  unfold popU
  split
  · have := listU_length x 7
    omega
  · omega

set_option maxHeartbeats 2000000 in
set_option maxRecDepth 100000 in
theorem implGap (n : Int) (v : Value) (l : List Int) (w : World) (h : Ints w v l) :
    Calls Try.prog 33 #[.agg #[.int .i64 n, v]] w (SaysN (gapR n l) w) := by
  obtain ⟨a, cap, rfl, -, -⟩ := h.form
  have HA := argG' (T := 28) (n := n) h
  have HI := Lib.hid h
  clear h
  go_enter Try.func33, Try.ntmps33
  go_wp2_with fail
  refine (implIsG_any n _ l _ (HI.out.alloc _)).mono ?_
  rintro e w1 ⟨r, rfl, hr, hb⟩
  have HB := Lib.hid (hb.mono (B' := w.heap.size + 1) (by simp))
  have HR := Lib.hid hr
  clear hb hr
  obtain ⟨c0, c1, cI, cB, hz⟩ := HA.out _ HB.out
  have HCB := Lib.hid cB
  clear cI cB
  cases r with
  | false =>
    have HN := Lib.hid (show gapR n l = -1 by unfold gapR; rw [if_neg (fun h => absurd (HR.out.2 h) (by decide))])
    go_wp2
    go_ret
    exact ⟨by rw [HN.out]; rfl, HCB.out⟩
  | true =>
    have HN := Lib.hid (show gapR n l = popU (fewU (famR n l (domB n l))) - popU (mosU (famR n l (packB n l))) by unfold gapR; rw [if_pos (HR.out.1 rfl)])
    have HX : Hid (∀ X : Since w1, ArgG 28 w n (.slice a l.length cap) l X.val) := fun X => HA.out _ (HB.out.trans (X.prop.mono hz))
    have hx0 : ∀ X : Since w1, X.val.cell? ⟨w.heap.size, 0, none⟩ = some (.int .i64 n) := fun X => (HX.out X).1
    have hx1 : ∀ X : Since w1, X.val.cell? ⟨w.heap.size, 1, none⟩ = some (.slice a l.length cap) := fun X => (HX.out X).2.1
    obtain ⟨f1, hf1⟩ : ∃ f1, f1 = fewU (famR n l (domB n l)) := ⟨_, rfl⟩
    obtain ⟨f2, hf2⟩ : ∃ f2, f2 = mosU (famR n l (packB n l)) := ⟨_, rfl⟩
    obtain ⟨p1, hp1⟩ : ∃ p1, p1 = popU f1 := ⟨_, rfl⟩
    obtain ⟨p2, hp2⟩ : ∃ p2, p2 = popU f2 := ⟨_, rfl⟩
    have HC1 : Hid (∀ X : Since w1, Calls Try.prog 27 #[.agg #[.int .i64 n, .slice a l.length cap]] X.val fun e w' => e = .returned (.int .i64 f1) ∧ Below X.val.heap.size X.val w') := fun X => by rw [hf1]; exact implFewDom n _ l _ (HX.out X).2.2.1
    have HC2 : Hid (∀ X : Since w1, Calls Try.prog 31 #[.agg #[.int .i64 n, .slice a l.length cap]] X.val fun e w' => e = .returned (.int .i64 f2) ∧ Below X.val.heap.size X.val w') := fun X => by rw [hf2]; exact implMosPack n _ l _ (HX.out X).2.2.1
    have HC3 : Hid (∀ X : Since w1, Calls Try.prog 59 #[.int .i64 f1] X.val fun e w' => e = .returned (.int .i64 p1) ∧ Below X.val.heap.size X.val w') := fun X => by rw [hp1]; exact (implCountSet f1 _).mono fun _ _ h => ⟨h.1, eq_below h.2⟩
    have HC4 : Hid (∀ X : Since w1, Calls Try.prog 59 #[.int .i64 f2] X.val fun e w' => e = .returned (.int .i64 p2) ∧ Below X.val.heap.size X.val w') := fun X => by rw [hp2]; exact (implCountSet f2 _).mono fun _ _ h => ⟨h.1, eq_below h.2⟩
    have b1 := popU_bd f1
    have b2 := popU_bd f2
    rw [← hp1] at b1
    rw [← hp2] at b2
    have g1 : IntKind.i64.wrap (p1 - p2) = p1 - p2 := IntWalk.i64_in _ (by omega)
    rw [← hf1, ← hf2, ← hp1, ← hp2] at HN
    clear hf1 hf2 hp1 hp2 c0 c1
    go_wp2
    refine wp_region_since (by kernel_rfl) (by kernel_rfl) ?_
    repeat (go_big_quiet_step (first | with_reducible exact since_call (HC1.out _) | with_reducible exact since_call (HC2.out _) | with_reducible exact since_call (HC3.out _) | with_reducible exact since_call (HC4.out _)))
    refine wpQuiet_nil ?_
    intro X
    have HW := Lib.hid (HX.out X).2.2.2.1
    clear hx0 hx1
    go_wp2
    go_ret
    exact ⟨by rw [HN.out]; rfl, HW.out⟩

set_option maxHeartbeats 2000000 in
set_option maxRecDepth 100000 in
theorem specGap (n : Int) (v : Value) (l : List Int) (w : World) (h : Ints w v l) :
    Calls Try.prog 32 #[.agg #[.int .i64 n, v]] w (SaysN (gapR n l) w) := by
  obtain ⟨a, cap, rfl, -, -⟩ := h.form
  have HA := argG' (T := 28) (n := n) h
  have HI := Lib.hid h
  clear h
  go_enter Try.func32, Try.ntmps32
  go_wp2_with fail
  refine (specIsG_any n _ l _ (HI.out.alloc _)).mono ?_
  rintro e w1 ⟨r, rfl, hr, hb⟩
  have HB := Lib.hid (hb.mono (B' := w.heap.size + 1) (by simp))
  have HR := Lib.hid hr
  clear hb hr
  obtain ⟨c0, c1, cI, cB, hz⟩ := HA.out _ HB.out
  have HCB := Lib.hid cB
  clear cI cB
  cases r with
  | false =>
    have HN := Lib.hid (show gapR n l = -1 by unfold gapR; rw [if_neg (fun h => absurd (HR.out.2 h) (by decide))])
    go_wp2
    go_ret
    exact ⟨by rw [HN.out]; rfl, HCB.out⟩
  | true =>
    have HN := Lib.hid (show gapR n l = popU (fewU (famR n l (domB n l))) - popU (mosU (famR n l (packB n l))) by unfold gapR; rw [if_pos (HR.out.1 rfl)])
    have HX : Hid (∀ X : Since w1, ArgG 28 w n (.slice a l.length cap) l X.val) := fun X => HA.out _ (HB.out.trans (X.prop.mono hz))
    have hx0 : ∀ X : Since w1, X.val.cell? ⟨w.heap.size, 0, none⟩ = some (.int .i64 n) := fun X => (HX.out X).1
    have hx1 : ∀ X : Since w1, X.val.cell? ⟨w.heap.size, 1, none⟩ = some (.slice a l.length cap) := fun X => (HX.out X).2.1
    obtain ⟨f1, hf1⟩ : ∃ f1, f1 = fewU (famR n l (domB n l)) := ⟨_, rfl⟩
    obtain ⟨f2, hf2⟩ : ∃ f2, f2 = mosU (famR n l (packB n l)) := ⟨_, rfl⟩
    obtain ⟨p1, hp1⟩ : ∃ p1, p1 = popU f1 := ⟨_, rfl⟩
    obtain ⟨p2, hp2⟩ : ∃ p2, p2 = popU f2 := ⟨_, rfl⟩
    have HC1 : Hid (∀ X : Since w1, Calls Try.prog 26 #[.agg #[.int .i64 n, .slice a l.length cap]] X.val fun e w' => e = .returned (.int .i64 f1) ∧ Below X.val.heap.size X.val w') := fun X => by rw [hf1]; exact specFewDom n _ l _ (HX.out X).2.2.1
    have HC2 : Hid (∀ X : Since w1, Calls Try.prog 30 #[.agg #[.int .i64 n, .slice a l.length cap]] X.val fun e w' => e = .returned (.int .i64 f2) ∧ Below X.val.heap.size X.val w') := fun X => by rw [hf2]; exact specMosPack n _ l _ (HX.out X).2.2.1
    have HC3 : Hid (∀ X : Since w1, Calls Try.prog 53 #[.int .i64 f1] X.val fun e w' => e = .returned (.int .i64 p1) ∧ Below X.val.heap.size X.val w') := fun X => by rw [hp1]; exact specCountSet f1 _
    have HC4 : Hid (∀ X : Since w1, Calls Try.prog 53 #[.int .i64 f2] X.val fun e w' => e = .returned (.int .i64 p2) ∧ Below X.val.heap.size X.val w') := fun X => by rw [hp2]; exact specCountSet f2 _
    have b1 := popU_bd f1
    have b2 := popU_bd f2
    rw [← hp1] at b1
    rw [← hp2] at b2
    have g1 : IntKind.i64.wrap (p1 - p2) = p1 - p2 := IntWalk.i64_in _ (by omega)
    rw [← hf1, ← hf2, ← hp1, ← hp2] at HN
    clear hf1 hf2 hp1 hp2 c0 c1
    go_wp2
    refine wp_region_since (by kernel_rfl) (by kernel_rfl) ?_
    repeat (go_big_quiet_step (first | with_reducible exact since_call (HC1.out _) | with_reducible exact since_call (HC2.out _) | with_reducible exact since_call (HC3.out _) | with_reducible exact since_call (HC4.out _)))
    refine wpQuiet_nil ?_
    intro X
    have HW := Lib.hid (HX.out X).2.2.2.1
    clear hx0 hx1
    go_wp2
    go_ret
    exact ⟨by rw [HN.out]; rfl, HW.out⟩

end Go.Proofs.Ytbgkceekkinngaa
