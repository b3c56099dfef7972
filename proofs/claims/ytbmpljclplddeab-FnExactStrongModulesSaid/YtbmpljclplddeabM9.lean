/- ModulesOf, IsPrime, TwinsOf. -/
import Derived.Test.YtbmpljclplddeabM7
import Derived.Test.YtbmpljclplddeabF1
import Derived.Laws.EntriesVeiled
namespace Go.Proofs.Ytbmpljclplddeab
set_option linter.unusedVariables false
set_option linter.unusedSimpArgs false
open Go.RowKit

def modB (n : Int) (l : List Int) (x : Nat) : Bool := decide (ModS n l (x : Int))

set_option maxRecDepth 100000 in
theorem enters_mod : Enters 131 := fun args W => by rfl

set_option maxHeartbeats 1000000 in
theorem rule_mod (q : Nat) (n : Int) (v : Value) (l : List Int) (m : Nat) (W0 : World) (hb : BoxG q n v W0) (hI : Ints W0 v l) :
    Rule1 131 #[.pointer (some ⟨q, 0, none⟩)] m (modB n l) W0 := by
  intro W x hx hbel
  obtain ⟨c0, c1, cz⟩ := hb.keep (below_grown hbel) (by simp)
  obtain ⟨a, cap, rfl, -, -⟩ := hI.form
  have HI := Lib.hid (hI.on hbel)
  clear hb hI hbel hx
  show Calls Try.prog 131 #[.int .i64 x, .pointer (some ⟨q, 0, none⟩)] W _
  go_enter Try.func131, Try.ntmps131
  go_wp2_with fail
  refine ((implMod n _ l x _ HI.out).mono fun _ _ h => h.dec).mono ?_
  rintro e w1 ⟨rfl, hb⟩
  have HB := Lib.hid hb
  clear hb
  obtain ⟨b, hbb⟩ : ∃ b, b = decide (ModS n l x) := ⟨_, rfl⟩
  have HE := Lib.hid hbb
  rw [← hbb]
  clear hbb
  go_wp2
  go_ret
  exact ⟨by rw [HE.out]; rfl, HB.out⟩

set_option maxHeartbeats 2000000 in
set_option maxRecDepth 100000 in
theorem implMods (n : Int) (v : Value) (l : List Int) (w : World) (h : Ints w v l) :
    Calls Try.prog 93 #[.agg #[.int .i64 n, v]] w (GetsI w.heap.size w (famR n l (modB n l))) := by
  obtain ⟨a, cap, rfl, -, -⟩ := h.form
  have hmf : ∀ (fn : Fn) (first cap : Array Value) (w : World), (Instr.makeFunc fn first cap).run Try.prog w = .ok (.func fn first cap) w := fun _ _ _ _ => rfl
  have BX := Lib.hid ((BoxG.new w 33 n (.slice a l.length cap) ⟨_, _, _, rfl⟩).keep (grown_alloc _ (.cells #[.int .i64 n, .slice a l.length cap, .func (.func 131) #[] #[.pointer (some ⟨w.heap.size, 0, none⟩)]] 102) none) (by simp))
  have II := Lib.hid ((h.alloc (.cells #[.int .i64 n, .slice a l.length cap] 33)).alloc (.cells #[.int .i64 n, .slice a l.length cap, .func (.func 131) #[] #[.pointer (some ⟨w.heap.size, 0, none⟩)]] 102))
  have BB := Lib.hid (((Below.refl _ w).alloc (Nat.le_refl _) (.cells #[.int .i64 n, .slice a l.length cap] 33)).alloc (by simp) (.cells #[.int .i64 n, .slice a l.length cap, .func (.func 131) #[] #[.pointer (some ⟨w.heap.size, 0, none⟩)]] 102))
  clear h
  go_enter Try.func93, Try.ntmps93
  go_wp2_with fail
  refine (sets_any 131 #[.pointer (some ⟨w.heap.size, 0, none⟩)] (modB n l) n _ l _ II.out enters_mod (fun _ => rule_mod w.heap.size n _ l _ _ BX.out II.out)).mono ?_
  rintro e w2 ⟨v2, rfl, ho, hb⟩
  have HO := Lib.hid ho
  have HB := Lib.hid (BB.out.trans (hb.mono BB.out.size))
  clear ho hb hmf
  go_wp2
  go_ret
  exact ⟨_, rfl, HO.out.mono BB.out.size, HB.out⟩

set_option maxHeartbeats 2000000 in
set_option maxRecDepth 100000 in
theorem specMods0 (n : Int) (v : Value) (l : List Int) (w : World) (h : Ints w v l) (h0 : modB n l 0 = false) :
    Calls Try.prog 92 #[.agg #[.int .i64 n, v]] w (GetsI w.heap.size w (famR n l (modB n l))) := by
  obtain ⟨a, cap, rfl, -, -⟩ := h.form
  obtain ⟨i0, hi, hi0, hi1, hi2⟩ := info_parts infoInt
  have HA := argG' (T := 33) (n := n) h
  clear h
  by_cases hg : IsG n l
  · have HG := Lib.hid hg
    have hn1 := hg.1
    have hn7 := hg.2.1
    obtain ⟨F, hF⟩ : ∃ F, F = 2 ^ l.length := ⟨_, rfl⟩
    obtain ⟨N, eN, hN0⟩ : ∃ N, (2 : Int) ^ n.toNat = N ∧ N = (F : Int) := ⟨_, rfl, by rw [hF]; exact (full_cast hg).2.2.2.1⟩
    have hF2 : F ≤ 128 := by rw [hF]; exact (full_cast hg).2.1
    have hF1 : 0 < F := by rw [hF]; exact (full_cast hg).2.2.1
    have HN := Lib.hid (show famR n l (modB n l) = famL (modB n l) F by unfold famR; rw [if_pos hg, hF])
    have HZ := Lib.hid (show famL (modB n l) 1 = [] by simp [famL, h0])
    subst hN0
    have q6 : IntKind.i64.wrap (1 * (F : Int)) = (F : Int) := IntWalk.i64_in _ (by omega) |>.trans (by omega)
    clear hg hF h0
    go_enter Try.func92, Try.ntmps92
    go_wp2
    go_loopw [3, 4] (fun s i wr => ∃ k : Nat, 1 ≤ k ∧ k ≤ F ∧ i = .int .i64 k ∧ OwnI (w.heap.size + 1) wr s (famL (modB n l) k) ∧ Below (w.heap.size + 1) (w.alloc (.cells #[.int .i64 n, .slice a l.length cap] 33)) wr) (fun _ i _ => F - (intOf i).toNat)
    case atStart =>
      refine ⟨1, by omega, by omega, rfl, ?_, (Below.refl _ _).alloc (by simp) _⟩
      have := OwnI.lit0 (w.alloc (.cells #[.int .i64 n, .slice a l.length cap] 33)) (w.heap.size + 1) (by simp)
      rw [HZ.out]
      simpa using this
    case round =>
      obtain ⟨k, hk0, hk, rfl, ho, hbel⟩ := hrel
      obtain ⟨c0, c1, cI, cB, hz⟩ := HA.out _ hbel
      have HO := Lib.hid ho
      have HBL := Lib.hid hbel
      have HCI := Lib.hid cI
      have HCB := Lib.hid cB
      clear ho hbel cI cB
      go_wp2_with fail
      refine (specIsG_any n _ l _ HCI.out).mono ?_
      rintro e wa ⟨r, rfl, hr, hb⟩
      obtain rfl : r = true := hr.2 HG.out
      have HO2 := Lib.hid (HO.out.on hb)
      have HB2 := Lib.hid (HBL.out.trans (hb.mono hz))
      clear hb hr c0 c1 hz HCI HCB
      obtain ⟨c0, c1, cI, cB, hz⟩ := HA.out _ HB2.out
      have HCI := Lib.hid cI
      have HCB2 := Lib.hid cB
      clear cI cB
      by_cases hlt : k < F
      · have HS := Lib.hid (famL_succ (modB n l) k)
        have HL := Lib.hid (famL_length (modB n l) k)
        go_wp2_with fail
        refine ((specMod n _ l k _ HCI.out).mono fun _ _ h => h.dec).mono ?_
        rintro e wb ⟨rfl, hb⟩
        have HO3 := Lib.hid (HO2.out.on hb)
        have HB3 := Lib.hid (HB2.out.trans (hb.mono hz))
        clear hb c0 c1 hz
        obtain ⟨-, -, -, -, hz⟩ := HA.out _ HB3.out
        by_cases hs : ModS n l k
        · have HT := Lib.hid (show famL (modB n l) (k + 1) = famL (modB n l) k ++ [(k : Int)] by rw [HS.out]; simp [modB, hs])
          have d1 : decide (ModS n l k) = true := by simp [hs]
          rw [d1]
          clear hs d1
          go_wp2_with (at_builtin; refine wpList_append_int rfl (.tmp 20) (.tmp 22) 22 rfl (w.heap.size + 1) i0 Try.underlying22 hi hi0 hi1 hi2 _ _ rfl HO3.out (k : Int) (by omega) (by omega) rfl (by have := HL.out; omega) hz ?_)
          intro v' w4 ho4 hg4 hv4
          have HO4 := Lib.hid ho4
          have HB4 := Lib.hid ((HB3.out.alloc hz (.cells #[.int .i64 (k : Int)] 3)).grown hg4 (by simp; omega) (fun k hk => (HO3.out.lt k hk).1))
          clear ho4 hg4
          go_wp2
          go_roundw
          case rel => exact ⟨k + 1, by omega, by omega, by go_num, by rw [HT.out]; exact HO4.out, HB4.out⟩
          case measure => simp [intOf]; omega
        · have HT := Lib.hid (show famL (modB n l) (k + 1) = famL (modB n l) k by rw [HS.out]; simp [modB, hs])
          have d1 : decide (ModS n l k) = false := by simp [hs]
          rw [d1]
          clear hs d1
          go_wp2
          go_roundw
          case rel => exact ⟨k + 1, by omega, by omega, by go_num, by rw [HT.out]; exact HO3.out, HB3.out⟩
          case measure => simp [intOf]; omega
      · obtain rfl : k = F := by omega
        go_wp2
        go_ret
        exact ⟨_, rfl, by rw [HN.out]; exact HO2.out.mono (by omega), HCB2.out⟩
  · have HNO := Lib.hid hg
    have HN := Lib.hid (show famR n l (modB n l) = [] by unfold famR; rw [if_neg hg])
    clear hg h0
    go_enter Try.func92, Try.ntmps92
    go_wp2
    go_loopw [3, 4] (fun s i wr => i = .int .i64 1 ∧ s = .slice (some ⟨w.heap.size + 1, 0, none⟩) 0 0 ∧ OwnI (w.heap.size + 1) wr (.slice (some ⟨w.heap.size + 1, 0, none⟩) 0 0) [] ∧ Below (w.heap.size + 1) (w.alloc (.cells #[.int .i64 n, .slice a l.length cap] 33)) wr) (fun _ _ _ => 0)
    case atStart =>
      refine ⟨rfl, by simp, ?_, (Below.refl _ _).alloc (by simp) _⟩
      have := OwnI.lit0 (w.alloc (.cells #[.int .i64 n, .slice a l.length cap] 33)) (w.heap.size + 1) (by simp)
      simpa using this
    case round =>
      obtain ⟨rfl, rfl, ho, hbel⟩ := hrel
      obtain ⟨c0, c1, cI, cB, hz⟩ := HA.out _ hbel
      have HO := Lib.hid ho
      have HCI := Lib.hid cI
      have HCB := Lib.hid cB
      clear ho hbel cI cB
      go_wp2_with fail
      refine (specIsG_any n _ l _ HCI.out).mono ?_
      rintro e wa ⟨r, rfl, hr, hb⟩
      obtain rfl : r = false := by
        cases r with
        | false => rfl
        | true => exact absurd (hr.1 rfl) HNO.out
      have HO2 := Lib.hid (HO.out.on hb)
      have HCB2 := Lib.hid (HCB.out.trans (hb.mono HCB.out.size))
      clear hb hr
      go_wp2
      go_ret
      exact ⟨_, rfl, by rw [HN.out]; exact HO2.out.mono (by omega), HCB2.out⟩

theorem modB_zero (n : Int) (l : List Int) : modB n l 0 = false := decide_eq_false fun h => h.2.1 rfl

theorem specMods (n : Int) (v : Value) (l : List Int) (w : World) (h : Ints w v l) :
    Calls Try.prog 92 #[.agg #[.int .i64 n, v]] w (GetsI w.heap.size w (famR n l (modB n l))) := specMods0 n v l w h (modB_zero n l)

end Go.Proofs.Ytbmpljclplddeab
