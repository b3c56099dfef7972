/- SplitOf, CountSplits, IsSplit: the family as a value, and its first set. -/
import Derived.Test.YtbgkceekkinngaaF1
import Derived.Laws.EntriesVeiled
namespace Go.Proofs.Ytbgkceekkinngaa
set_option linter.unusedVariables false
set_option linter.unusedSimpArgs false
open Go.RowKit

theorem Rule1.on {f : FuncId} {cp : Array Value} {m : Nat} {r : Nat → Bool} {W0 W1 : World} (h : Rule1 f cp m r W0) (hb : Below W0.heap.size W0 W1) : Rule1 f cp m r W1 :=
  fun W x hx hbel => h W x hx (hb.trans (hbel.mono hb.size))

def splitB (n : Int) (l : List Int) (x : Nat) : Bool := decide (SplitS n l (x : Int))

set_option maxRecDepth 100000 in
theorem enters_split : Enters 74 := fun args W => by rfl

set_option maxHeartbeats 1000000 in
theorem rule_split (q : Nat) (n : Int) (v : Value) (l : List Int) (m : Nat) (W0 : World) (hb : BoxG q n v W0) (hI : Ints W0 v l) :
    Rule1 74 #[.pointer (some ⟨q, 0, none⟩)] m (splitB n l) W0 := by
  intro W x hx hbel
  obtain ⟨c0, c1, cz⟩ := hb.keep (below_grown hbel) (by simp)
  obtain ⟨a, cap, rfl, -, -⟩ := hI.form
  have HI := Lib.hid (hI.on hbel)
  clear hb hI hbel hx
  show Calls Try.prog 74 #[.int .i64 x, .pointer (some ⟨q, 0, none⟩)] W _
  go_enter Try.func74, Try.ntmps74
  go_wp2_with fail
  refine ((implSplitP n _ l x _ HI.out).mono fun _ _ h => h.dec).mono ?_
  rintro e w1 ⟨rfl, hb⟩
  have HB := Lib.hid hb
  clear hb
  obtain ⟨b, hbb⟩ : ∃ b, b = decide (SplitS n l x) := ⟨_, rfl⟩
  have HE := Lib.hid hbb
  rw [← hbb]
  clear hbb
  go_wp2
  go_ret
  exact ⟨by rw [HE.out]; rfl, HB.out⟩

/-- The first one, and whether there is one. -/
def headI (l : List Int) : Int := nth l 0

def headB : List Int → Bool
  | [] => false
  | _ :: _ => true

def SaysIB' (x : Int) (b : Bool) (w : World) (e : Ending) (w' : World) : Prop := e = .returned (.tuple #[.int .i64 x, .bool b]) ∧ Below w.heap.size w w'

set_option maxHeartbeats 2000000 in
set_option maxRecDepth 100000 in
theorem first_any (f : FuncId) (cp : Array Value) (r : Nat → Bool) (n : Int) (v : Value) (l : List Int) (w : World) (h : Ints w v l) (he : Enters f) (hr : IsG n l → Rule1 f cp (2 ^ l.length) r w) :
    Calls Try.prog 47 #[.agg #[.int .i64 n, v, .func (.func f) #[] cp]] w (SaysIB' (headI (famR n l r)) (headB (famR n l r)) w) := by
  obtain ⟨a, cap, rfl, -, -⟩ := h.form
  have HI := Lib.hid (h.alloc (.cells #[.int .i64 n, .slice a l.length cap, .func (.func f) #[] cp] 41))
  have HR := Lib.hid (fun hg => (hr hg).on ((Below.refl _ w).alloc (Nat.le_refl _) (.cells #[.int .i64 n, .slice a l.length cap, .func (.func f) #[] cp] 41)))
  have HL := Lib.hid (famR_length n l r)
  obtain ⟨R, hR⟩ : ∃ R, R = famR n l r := ⟨_, rfl⟩
  have HSP := Lib.hid (sets_any f cp r n _ l _ HI.out he HR.out)
  rw [← hR] at HSP HL ⊢
  clear h hR hr
  go_enter Try.func47, Try.ntmps47
  go_wp2_with fail
  refine HSP.out.mono ?_
  rintro e w2 ⟨v2, rfl, ho, hb⟩
  have HB := Lib.hid (((Below.refl _ w).alloc (Nat.le_refl _) _).trans (hb.mono (by simp)))
  have hO := ho.ints
  clear hb ho
  cases R with
  | nil =>
    obtain ⟨a2, cap2, rfl, -, -⟩ := hO.form
    clear hO
    go_wp2
    go_ret2
    exact ⟨rfl, HB.out⟩
  | cons x t =>
    obtain ⟨b2, off2, cap2, rfl, -, hmx, hlt, hcell⟩ := hO.pos (by simp)
    have hc : w2.cell? ⟨b2, off2, none⟩ = some (.int .i64 x) := hcell 0 (by simp)
    have hl1 : 1 ≤ (x :: t).length := by simp
    obtain ⟨L, hLL⟩ : ∃ L, L = (x :: t).length := ⟨_, rfl⟩
    have hL2 : L ≤ 128 := by rw [hLL]; exact HL.out
    rw [← hLL] at hl1 ⊢
    have d1 : ((L : Int) == 0) = false := by simp; omega
    unfold maxLen at hmx
    clear hcell hLL hO
    go_wp2
    go_ret2
    exact ⟨rfl, HB.out⟩

set_option maxHeartbeats 2000000 in
set_option maxRecDepth 100000 in
theorem splitsOf_fam (n : Int) (v : Value) (l : List Int) (w : World) (h : Ints w v l) :
    Calls Try.prog 46 #[.agg #[.int .i64 n, v]] w fun e w' => ∃ q, e = .returned (.agg #[.int .i64 n, v, .func (.func 74) #[] #[.pointer (some ⟨q, 0, none⟩)]]) ∧ BoxG q n v w' ∧ Ints w' v l ∧ Below w.heap.size w w' := by
  obtain ⟨a, cap, rfl, -, -⟩ := h.form
  have hmf : ∀ (fn : Fn) (first cap : Array Value) (w : World), (Instr.makeFunc fn first cap).run Try.prog w = .ok (.func fn first cap) w := fun _ _ _ _ => rfl
  have HI := Lib.hid h
  clear h
  go_enter Try.func46, Try.ntmps46
  go_wp2
  clear hmf
  refine bodyPost_ret (v := .agg #[.int .i64 n, .slice a l.length cap, .func (.func 74) #[] #[.pointer (some ⟨w.heap.size, 0, none⟩)]]) (by simp [results, Try.results46, go_sem]) rfl ⟨w.heap.size, rfl, ?_, ?_, ?_⟩
  · exact (BoxG.new w _ n _ ⟨_, _, _, rfl⟩).keep (grown_alloc _ _ none) (by simp)
  · exact (HI.out.alloc _).alloc _
  · exact ((Below.refl _ w).alloc (Nat.le_refl _) _).alloc (by simp) _

theorem implSplitOf (n : Int) (v : Value) (l : List Int) (w : World) (h : Ints w v l) :
    Calls Try.prog 18 #[.agg #[.int .i64 n, v]] w (SaysIB' (headI (famR n l (splitB n l))) (headB (famR n l (splitB n l))) w) := by
  obtain ⟨a, cap, rfl, -, -⟩ := h.form
  have HI := Lib.hid h
  clear h
  go_enter Try.func18, Try.ntmps18
  go_wp2_with fail
  refine (splitsOf_fam n _ l _ (HI.out.alloc _)).mono ?_
  rintro e w2 ⟨q, rfl, hx, hi, hb⟩
  have HB := Lib.hid (((Below.refl _ w).alloc (Nat.le_refl _) _).trans (hb.mono (by simp)))
  have HX := Lib.hid hx
  have HII := Lib.hid hi
  clear hb hx hi
  go_wp2_with fail
  refine (first_any 74 _ (splitB n l) n _ l _ HII.out enters_split (fun _ => rule_split q n _ l _ _ HX.out HII.out)).mono ?_
  rintro e w3 ⟨rfl, hb⟩
  have HB3 := Lib.hid (HB.out.trans (hb.mono HB.out.size))
  clear hb
  go_wp2
  go_ret2
  exact ⟨rfl, HB3.out⟩

theorem implCountSplits (n : Int) (v : Value) (l : List Int) (w : World) (h : Ints w v l) :
    Calls Try.prog 21 #[.agg #[.int .i64 n, v]] w (SaysN ((famR n l (splitB n l)).length : Int) w) := by
  obtain ⟨a, cap, rfl, -, -⟩ := h.form
  have HI := Lib.hid h
  clear h
  go_enter Try.func21, Try.ntmps21
  go_wp2_with fail
  refine (splitsOf_fam n _ l _ (HI.out.alloc _)).mono ?_
  rintro e w2 ⟨q, rfl, hx, hi, hb⟩
  have HB := Lib.hid (((Below.refl _ w).alloc (Nat.le_refl _) _).trans (hb.mono (by simp)))
  have HX := Lib.hid hx
  have HII := Lib.hid hi
  clear hb hx hi
  go_wp2_with fail
  refine (sets_any 74 _ (splitB n l) n _ l _ HII.out enters_split (fun _ => rule_split q n _ l _ _ HX.out HII.out)).mono ?_
  rintro e w3 ⟨v3, rfl, ho, hb⟩
  obtain ⟨a2, cap2, rfl, -, -⟩ := ho.ints.form
  have HB3 := Lib.hid (HB.out.trans (hb.mono HB.out.size))
  clear hb ho
  go_wp2
  go_ret
  exact ⟨rfl, HB3.out⟩

set_option maxHeartbeats 2000000 in
set_option maxRecDepth 100000 in
theorem specSplitOf (n : Int) (v : Value) (l : List Int) (w : World) (h : Ints w v l) :
    Calls Try.prog 16 #[.agg #[.int .i64 n, v]] w (SaysIB' (headI (famR n l (splitB n l))) (headB (famR n l (splitB n l))) w) := by
  obtain ⟨a, cap, rfl, -, -⟩ := h.form
  have HA := argG' (T := 28) (n := n) h
  clear h
  by_cases hg : IsG n l
  · have HG := Lib.hid hg
    have hn1 := hg.1
    have hn7 := hg.2.1
    obtain ⟨F, hF⟩ : ∃ F, F = 2 ^ l.length := ⟨_, rfl⟩
    obtain ⟨N, eN, hN0⟩ : ∃ N, (2 : Int) ^ n.toNat = N ∧ N = (F : Int) := ⟨_, rfl, by rw [hF]; exact (full_cast hg).2.2.2.1⟩
    have hF2 : F ≤ 128 := by rw [hF]; exact (full_cast hg).2.1
    have hF1 : 0 < F := by rw [hF]; exact (full_cast hg).2.2.1
    have HN := Lib.hid (show famR n l (splitB n l) = famL (splitB n l) F by unfold famR; rw [if_pos hg, hF])
    subst hN0
    have q6 : IntKind.i64.wrap (1 * (F : Int)) = (F : Int) := IntWalk.i64_in _ (by omega) |>.trans (by omega)
    clear hg hF
    go_enter Try.func16, Try.ntmps16
    go_wp2
    go_loopw [4] (fun i wr => ∃ k : Nat, k ≤ F ∧ i = .int .i64 k ∧ Hid (famL (splitB n l) k = []) ∧ Below (w.heap.size + 1) (w.alloc (.cells #[.int .i64 n, .slice a l.length cap] 28)) wr) (fun i _ => F - (intOf i).toNat)
    case atStart => exact ⟨0, by omega, rfl, rfl, Below.refl _ _⟩
    case round =>
      obtain ⟨k, hk, rfl, HE, hbel⟩ := hrel
      obtain ⟨c0, c1, cI, cB, hz⟩ := HA.out _ hbel
      have HBL := Lib.hid hbel
      have HCI := Lib.hid cI
      have HCB := Lib.hid cB
      clear hbel cI cB
      go_wp2_with fail
      refine (specIsG_any n _ l _ HCI.out).mono ?_
      rintro e wa ⟨r, rfl, hr, hb⟩
      obtain rfl : r = true := hr.2 HG.out
      have HB2 := Lib.hid (HBL.out.trans (hb.mono hz))
      clear hb hr c0 c1 hz HCI
      obtain ⟨c0, c1, cI, cB, hz⟩ := HA.out _ HB2.out
      have HCI := Lib.hid cI
      have HCB2 := Lib.hid cB
      clear cI cB
      by_cases hlt : k < F
      · have HS := Lib.hid (famL_succ (splitB n l) k)
        go_wp2_with fail
        refine ((specSplitP n _ l k _ HCI.out).mono fun _ _ h => h.dec).mono ?_
        rintro e wb ⟨rfl, hb⟩
        have HB3 := Lib.hid (HB2.out.trans (hb.mono hz))
        have HCB3 := Lib.hid (HCB2.out.trans (hb.mono HCB2.out.size))
        clear hb c0 c1 hz
        by_cases hs : SplitS n l k
        · have HT := Lib.hid (show famL (splitB n l) (k + 1) = [(k : Int)] by rw [HS.out, HE.out]; simp [splitB, hs])
          have HFF := Lib.hid (show ∃ t, famL (splitB n l) F = (k : Int) :: t by
            obtain ⟨d, hd⟩ : ∃ d, F = k + 1 + d := ⟨F - (k + 1), by omega⟩
            have : ∀ d, ∃ t, famL (splitB n l) (k + 1 + d) = (k : Int) :: t := fun d => by
              induction d with
              | zero => exact ⟨[], HT.out⟩
              | succ d ih =>
                obtain ⟨t, ht⟩ := ih
                exact ⟨_, by rw [← Nat.add_assoc, famL_succ, ht]; rfl⟩
            rw [hd]; exact this d)
          have d1 : decide (SplitS n l k) = true := by simp [hs]
          rw [d1]
          clear hs d1
          go_wp2
          go_ret2
          obtain ⟨t, ht⟩ := HFF.out
          exact ⟨by rw [HN.out, ht]; rfl, HCB3.out⟩
        · have HT := Lib.hid (show famL (splitB n l) (k + 1) = [] by rw [HS.out, HE.out]; simp [splitB, hs])
          have d1 : decide (SplitS n l k) = false := by simp [hs]
          rw [d1]
          clear hs d1
          go_wp2
          go_roundw
          case rel => exact ⟨k + 1, by omega, by go_num, HT.out, HB3.out⟩
          case measure => simp [intOf]; omega
      · obtain rfl : k = F := by omega
        go_wp2
        go_ret2
        exact ⟨by rw [HN.out, HE.out]; rfl, HCB2.out⟩
  · have HNO := Lib.hid hg
    have HN := Lib.hid (show famR n l (splitB n l) = [] by unfold famR; rw [if_neg hg])
    clear hg
    go_enter Try.func16, Try.ntmps16
    go_wp2
    go_loopw [4] (fun i wr => i = .int .i64 0 ∧ Below (w.heap.size + 1) (w.alloc (.cells #[.int .i64 n, .slice a l.length cap] 28)) wr) (fun _ _ => 0)
    case atStart => exact ⟨rfl, Below.refl _ _⟩
    case round =>
      obtain ⟨rfl, hbel⟩ := hrel
      obtain ⟨c0, c1, cI, cB, hz⟩ := HA.out _ hbel
      have HCI := Lib.hid cI
      have HCB := Lib.hid cB
      clear hbel cI cB
      go_wp2_with fail
      refine (specIsG_any n _ l _ HCI.out).mono ?_
      rintro e wa ⟨r, rfl, hr, hb⟩
      obtain rfl : r = false := by
        cases r with
        | false => rfl
        | true => exact absurd (hr.1 rfl) HNO.out
      have HCB2 := Lib.hid (HCB.out.trans (hb.mono HCB.out.size))
      clear hb hr
      go_wp2
      go_ret2
      exact ⟨by rw [HN.out]; rfl, HCB2.out⟩

set_option maxHeartbeats 2000000 in
set_option maxRecDepth 100000 in
theorem specCountSplits (n : Int) (v : Value) (l : List Int) (w : World) (h : Ints w v l) :
    Calls Try.prog 20 #[.agg #[.int .i64 n, v]] w (SaysN ((famR n l (splitB n l)).length : Int) w) := by
  obtain ⟨a, cap, rfl, -, -⟩ := h.form
  have HA := argG' (T := 28) (n := n) h
  clear h
  by_cases hg : IsG n l
  · have HG := Lib.hid hg
    have hn1 := hg.1
    have hn7 := hg.2.1
    obtain ⟨F, hF⟩ : ∃ F, F = 2 ^ l.length := ⟨_, rfl⟩
    obtain ⟨N, eN, hN0⟩ : ∃ N, (2 : Int) ^ n.toNat = N ∧ N = (F : Int) := ⟨_, rfl, by rw [hF]; exact (full_cast hg).2.2.2.1⟩
    have hF2 : F ≤ 128 := by rw [hF]; exact (full_cast hg).2.1
    have HN := Lib.hid (show famR n l (splitB n l) = famL (splitB n l) F by unfold famR; rw [if_pos hg, hF])
    subst hN0
    have q6 : IntKind.i64.wrap (1 * (F : Int)) = (F : Int) := IntWalk.i64_in _ (by omega) |>.trans (by omega)
    clear hg hF
    go_enter Try.func20, Try.ntmps20
    go_wp2
    go_loopw [3, 4] (fun c i wr => ∃ k m : Nat, k ≤ F ∧ m ≤ k ∧ i = .int .i64 k ∧ c = .int .i64 m ∧ Hid (m = (famL (splitB n l) k).length) ∧ Below (w.heap.size + 1) (w.alloc (.cells #[.int .i64 n, .slice a l.length cap] 28)) wr) (fun _ i _ => F - (intOf i).toNat)
    case atStart => exact ⟨0, 0, by omega, by omega, rfl, rfl, rfl, Below.refl _ _⟩
    case round =>
      obtain ⟨k, m, hk, hm, rfl, rfl, HE, hbel⟩ := hrel
      obtain ⟨c0, c1, cI, cB, hz⟩ := HA.out _ hbel
      have HBL := Lib.hid hbel
      have HCI := Lib.hid cI
      clear hbel cI cB
      go_wp2_with fail
      refine (specIsG_any n _ l _ HCI.out).mono ?_
      rintro e wa ⟨r, rfl, hr, hb⟩
      obtain rfl : r = true := hr.2 HG.out
      have HB2 := Lib.hid (HBL.out.trans (hb.mono hz))
      clear hb hr c0 c1 hz HCI
      obtain ⟨c0, c1, cI, cB, hz⟩ := HA.out _ HB2.out
      have HCI := Lib.hid cI
      have HCB2 := Lib.hid cB
      clear cI cB
      by_cases hlt : k < F
      · have HS := Lib.hid (famL_succ (splitB n l) k)
        go_wp2_with fail
        refine ((specSplitP n _ l k _ HCI.out).mono fun _ _ h => h.dec).mono ?_
        rintro e wb ⟨rfl, hb⟩
        have HB3 := Lib.hid (HB2.out.trans (hb.mono hz))
        clear hb c0 c1 hz
        by_cases hs : SplitS n l k
        · have HT := Lib.hid (show m + 1 = (famL (splitB n l) (k + 1)).length by rw [HS.out, HE.out]; simp [splitB, hs])
          have d1 : decide (SplitS n l k) = true := by simp [hs]
          rw [d1]
          clear hs d1
          go_wp2
          go_roundw
          case rel => exact ⟨k + 1, m + 1, by omega, by omega, by go_num, by go_num, HT.out, HB3.out⟩
          case measure => simp [intOf]; omega
        · have HT := Lib.hid (show m = (famL (splitB n l) (k + 1)).length by rw [HS.out, HE.out]; simp [splitB, hs])
          have d1 : decide (SplitS n l k) = false := by simp [hs]
          rw [d1]
          clear hs d1
          go_wp2
          go_roundw
          case rel => exact ⟨k + 1, m, by omega, by omega, by go_num, rfl, HT.out, HB3.out⟩
          case measure => simp [intOf]; omega
      · obtain rfl : k = F := by omega
        go_wp2
        go_ret
        exact ⟨by rw [HN.out, ← HE.out]; rfl, HCB2.out⟩
  · have HNO := Lib.hid hg
    have HN := Lib.hid (show famR n l (splitB n l) = [] by unfold famR; rw [if_neg hg])
    clear hg
    go_enter Try.func20, Try.ntmps20
    go_wp2
    go_loopw [3, 4] (fun c i wr => i = .int .i64 0 ∧ c = .int .i64 0 ∧ Below (w.heap.size + 1) (w.alloc (.cells #[.int .i64 n, .slice a l.length cap] 28)) wr) (fun _ _ _ => 0)
    case atStart => exact ⟨rfl, rfl, Below.refl _ _⟩
    case round =>
      obtain ⟨rfl, rfl, hbel⟩ := hrel
      obtain ⟨c0, c1, cI, cB, hz⟩ := HA.out _ hbel
      have HCI := Lib.hid cI
      have HCB := Lib.hid cB
      clear hbel cI cB
      go_wp2_with fail
      refine (specIsG_any n _ l _ HCI.out).mono ?_
      rintro e wa ⟨r, rfl, hr, hb⟩
      obtain rfl : r = false := by
        cases r with
        | false => rfl
        | true => exact absurd (hr.1 rfl) HNO.out
      have HCB2 := Lib.hid (HCB.out.trans (hb.mono HCB.out.size))
      clear hb hr
      go_wp2
      go_ret
      exact ⟨by rw [HN.out]; rfl, HCB2.out⟩

theorem implIsSplit (n : Int) (v : Value) (l : List Int) (w : World) (h : Ints w v l) :
    Calls Try.prog 23 #[.agg #[.int .i64 n, v]] w fun e w' => e = .returned (.bool (headB (famR n l (splitB n l)))) ∧ Below w.heap.size w w' := by
  obtain ⟨a, cap, rfl, -, -⟩ := h.form
  have HI := Lib.hid h
  clear h
  go_enter Try.func23, Try.ntmps23
  go_wp2_with fail
  refine (implSplitOf n _ l _ (HI.out.alloc _)).mono ?_
  rintro e w2 ⟨rfl, hb⟩
  have HB := Lib.hid (((Below.refl _ w).alloc (Nat.le_refl _) _).trans (hb.mono (by simp)))
  clear hb
  go_wp2
  go_ret
  exact ⟨rfl, HB.out⟩

theorem specIsSplit (n : Int) (v : Value) (l : List Int) (w : World) (h : Ints w v l) :
    Calls Try.prog 22 #[.agg #[.int .i64 n, v]] w fun e w' => e = .returned (.bool (headB (famR n l (splitB n l)))) ∧ Below w.heap.size w w' := by
  obtain ⟨a, cap, rfl, -, -⟩ := h.form
  have HI := Lib.hid h
  clear h
  go_enter Try.func22, Try.ntmps22
  go_wp2_with fail
  refine (specSplitOf n _ l _ (HI.out.alloc _)).mono ?_
  rintro e w2 ⟨rfl, hb⟩
  have HB := Lib.hid (((Below.refl _ w).alloc (Nat.le_refl _) _).trans (hb.mono (by simp)))
  clear hb
  go_wp2
  go_ret
  exact ⟨rfl, HB.out⟩

end Go.Proofs.Ytbgkceekkinngaa
