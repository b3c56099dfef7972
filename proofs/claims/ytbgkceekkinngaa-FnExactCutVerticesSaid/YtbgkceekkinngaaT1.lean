/- IsSplitPartition, IsCover: sets and what is left. -/
import Derived.Test.YtbgkceekkinngaaV4
import Derived.Test.YtbgkceekkinngaaQ
namespace Go.Proofs.Ytbgkceekkinngaa
set_option linter.unusedVariables false
set_option linter.unusedSimpArgs false
open Go.RowKit

theorem SaysB.is_yes {P : Prop} {w : World} {e : Ending} {w' : World} (h : SaysB P w e w') (hp : P) : e = .returned (.bool true) ∧ Below w.heap.size w w' := by
  obtain ⟨r, rfl, hr, hb⟩ := h
  exact ⟨by rw [hr.2 hp], hb⟩

theorem SaysB.is_no {P : Prop} {w : World} {e : Ending} {w' : World} (h : SaysB P w e w') (hp : ¬ P) : e = .returned (.bool false) ∧ Below w.heap.size w w' := by
  obtain ⟨r, rfl, hr, hb⟩ := h
  refine ⟨?_, hb⟩
  cases r with
  | false => rfl
  | true => exact absurd (hr.1 rfl) hp

theorem sub_full (m : Nat) (h : m ≤ 7) (X : Nat) (hX : X < 2 ^ m) : Sub X (2 ^ m - 1) := fun i hi => by
  have := bit_lt hX hi
  rw [Nat.testBit_two_pow_sub_one]
  simpa using this

/-- What is left of all vertices. -/
theorem rest_is {n : Int} {l : List Int} {x : Int} (h : IsS n l x) : bits .andNot .i64 (2 ^ n.toNat - 1) x = 2 ^ n.toNat - 1 - x ∧ 0 ≤ 2 ^ n.toNat - 1 - x ∧ (2 : Int) ^ n.toNat ≤ 128 ∧ 1 ≤ (2 : Int) ^ n.toNat := by
  obtain ⟨h1, h2, h3⟩ := h.nat
  have hn : n.toNat = l.length := by have := h.1.2.2.1; omega
  obtain ⟨X, hX⟩ : ∃ X, X = x.toNat := ⟨_, rfl⟩
  rw [← hX] at h1 h2
  subst h1
  rw [hn]
  have h4 := two_le _ h3
  have h5 : ((2 ^ l.length : Nat) : Int) = (2 : Int) ^ l.length := by push_cast; rfl
  have h6 : 0 < 2 ^ l.length := Nat.pow_pos (by decide)
  have h7 := andNot_nat (L := 2 ^ l.length - 1) (by omega) (sub_full _ h3 X h2)
  have h8 : ((2 ^ l.length - 1 : Nat) : Int) = (2 : Int) ^ l.length - 1 := by omega
  rw [h8] at h7
  exact ⟨by rw [h7]; omega, by omega, by omega, by omega⟩

/-- A clique, all else independent. -/
def SplitS (n : Int) (l : List Int) (x : Int) : Prop := CliqueS n l x ∧ IndepS n l (2 ^ n.toNat - 1 - x)

instance (n : Int) (l : List Int) (x : Int) : Decidable (IndepS n l x) := by unfold IndepS; infer_instance

instance (n : Int) (l : List Int) (x : Int) : Decidable (SplitS n l x) := by unfold SplitS; infer_instance

/-- A set with a vertex of each edge. -/
def CoverS (n : Int) (l : List Int) (x : Int) : Prop := IsS n l x ∧ IndepS n l (2 ^ n.toNat - 1 - x)

instance (n : Int) (l : List Int) (x : Int) : Decidable (CoverS n l x) := by unfold CoverS; infer_instance

set_option maxHeartbeats 2000000 in
set_option maxRecDepth 100000 in
theorem implSplitP (n : Int) (v : Value) (l : List Int) (x : Int) (w : World) (h : Ints w v l) :
    Calls Try.prog 75 #[.agg #[.int .i64 n, v], .int .i64 x] w (SaysB (SplitS n l x) w) := by
  obtain ⟨a, cap, rfl, -, -⟩ := h.form
  have HA := argG' (T := 28) (n := n) h
  clear h
  obtain ⟨w1, hw1⟩ : ∃ w1, w1 = w.alloc (.cells #[.int .i64 n, .slice a l.length cap] 28) := ⟨_, rfl⟩
  have HX : Hid (∀ X : Since w1, ArgG 28 w n (.slice a l.length cap) l X.val) := fun X => HA.out _ (since_below hw1 (by simp) X)
  have hx0 : ∀ X : Since w1, X.val.cell? ⟨w.heap.size, 0, none⟩ = some (.int .i64 n) := fun X => (HX.out X).1
  have hx1 : ∀ X : Since w1, X.val.cell? ⟨w.heap.size, 1, none⟩ = some (.slice a l.length cap) := fun X => (HX.out X).2.1
  go_enter Try.func75, Try.ntmps75
  go_wp2
  rw [← hw1]
  clear hw1
  refine wp_region_since (by kernel_rfl) (by kernel_rfl) ?_
  by_cases hq : CliqueS n l x
  · have HC1 : Hid (∀ X : Since w1, Calls Try.prog 85 #[.agg #[.int .i64 n, .slice a l.length cap], .int .i64 x] X.val fun e w' => e = .returned (.bool true) ∧ Below X.val.heap.size X.val w') := fun X => (implClique n _ l x _ (HX.out X).2.2.1).mono fun _ _ h => h.is_yes hq
    have HQ := Lib.hid hq
    have HF := Lib.hid (rest_is (show IsS n l x from hq.1))
    have HG := Lib.hid (show IsS n l x from hq.1)
    clear hq
    obtain ⟨M, hM⟩ : ∃ M : Int, M = 2 ^ n.toNat - 1 := ⟨_, rfl⟩
    have HC2 : Hid (∀ X : Since w1, Calls Try.prog 68 #[.agg #[.int .i64 n, .slice a l.length cap]] X.val fun e w' => e = .returned (.int .i64 M) ∧ Below X.val.heap.size X.val w') := fun X => by rw [hM]; exact allVertices_is n _ l _ (HX.out X).2.2.1 HG.out.1.1 HG.out.1.2.1
    have q1 : bits .andNot .i64 M x = M - x := by rw [hM]; exact HF.out.1
    have q2 : 0 ≤ M - x := by rw [hM]; exact HF.out.2.1
    have q3 : M ≤ 127 := by have := HF.out.2.2.1; omega
    have q4 : 0 ≤ x := HG.out.2.1
    have q5 : IntKind.i64.wrap (M - x) = M - x := IntWalk.i64_in _ (by omega)
    have HM := Lib.hid hM
    clear hM
    by_cases hi : IndepS n l (M - x)
    · have HC3 : Hid (∀ X : Since w1, Calls Try.prog 82 #[.agg #[.int .i64 n, .slice a l.length cap], .int .i64 (M - x)] X.val fun e w' => e = .returned (.bool true) ∧ Below X.val.heap.size X.val w') := fun X => (implIndep n _ l (M - x) _ (HX.out X).2.2.1).mono fun _ _ h => h.is_yes hi
      have HI := Lib.hid hi
      clear hi
      repeat (go_big_quiet_step (first | exact since_call (HC1.out _) | exact since_call (HC2.out _) | exact since_call (HC3.out _)))
      refine wpQuiet_nil ?_
      intro X
      have HW := Lib.hid (HX.out X).2.2.2.1
      clear q2 q3 q4 q5 hx0 hx1 q1
      go_wp2
      go_ret
      exact SaysB.yes ⟨HQ.out, by rw [← HM.out]; exact HI.out⟩ HW.out
    · have HC3 : Hid (∀ X : Since w1, Calls Try.prog 82 #[.agg #[.int .i64 n, .slice a l.length cap], .int .i64 (M - x)] X.val fun e w' => e = .returned (.bool false) ∧ Below X.val.heap.size X.val w') := fun X => (implIndep n _ l (M - x) _ (HX.out X).2.2.1).mono fun _ _ h => h.is_no hi
      have HI := Lib.hid hi
      clear hi
      repeat (go_big_quiet_step (first | exact since_call (HC1.out _) | exact since_call (HC2.out _) | exact since_call (HC3.out _)))
      refine wpQuiet_nil ?_
      intro X
      have HW := Lib.hid (HX.out X).2.2.2.1
      clear q2 q3 q4 q5 hx0 hx1 q1
      go_wp2
      go_ret
      exact SaysB.no (fun h => HI.out (by rw [HM.out]; exact h.2)) HW.out
  · have HC1 : Hid (∀ X : Since w1, Calls Try.prog 85 #[.agg #[.int .i64 n, .slice a l.length cap], .int .i64 x] X.val fun e w' => e = .returned (.bool false) ∧ Below X.val.heap.size X.val w') := fun X => (implClique n _ l x _ (HX.out X).2.2.1).mono fun _ _ h => h.is_no hq
    have HQ := Lib.hid hq
    clear hq
    repeat (go_big_quiet_step (exact since_call (HC1.out _)))
    refine wpQuiet_nil ?_
    intro X
    have HW := Lib.hid (HX.out X).2.2.2.1
    clear hx0 hx1
    go_wp2
    go_ret
    exact SaysB.no (fun h => HQ.out h.1) HW.out

set_option maxHeartbeats 2000000 in
set_option maxRecDepth 100000 in
theorem specSplitP (n : Int) (v : Value) (l : List Int) (x : Int) (w : World) (h : Ints w v l) :
    Calls Try.prog 44 #[.agg #[.int .i64 n, v], .int .i64 x] w (SaysB (SplitS n l x) w) := by
  obtain ⟨a, cap, rfl, -, -⟩ := h.form
  have HA := argG' (T := 28) (n := n) h
  clear h
  obtain ⟨w1, hw1⟩ : ∃ w1, w1 = w.alloc (.cells #[.int .i64 n, .slice a l.length cap] 28) := ⟨_, rfl⟩
  have HX : Hid (∀ X : Since w1, ArgG 28 w n (.slice a l.length cap) l X.val) := fun X => HA.out _ (since_below hw1 (by simp) X)
  have hx0 : ∀ X : Since w1, X.val.cell? ⟨w.heap.size, 0, none⟩ = some (.int .i64 n) := fun X => (HX.out X).1
  have hx1 : ∀ X : Since w1, X.val.cell? ⟨w.heap.size, 1, none⟩ = some (.slice a l.length cap) := fun X => (HX.out X).2.1
  go_enter Try.func44, Try.ntmps44
  go_wp2
  rw [← hw1]
  clear hw1
  refine wp_region_since (by kernel_rfl) (by kernel_rfl) ?_
  by_cases hq : CliqueS n l x
  · have HC1 : Hid (∀ X : Since w1, Calls Try.prog 72 #[.agg #[.int .i64 n, .slice a l.length cap], .int .i64 x] X.val fun e w' => e = .returned (.bool true) ∧ Below X.val.heap.size X.val w') := fun X => (specClique n _ l x _ (HX.out X).2.2.1).mono fun _ _ h => h.is_yes hq
    have HQ := Lib.hid hq
    have HF := Lib.hid (rest_is (show IsS n l x from hq.1))
    have HG := Lib.hid (show IsS n l x from hq.1)
    clear hq
    obtain ⟨N, eN, hN1, hN2⟩ : ∃ N, (2 : Int) ^ n.toNat = N ∧ 1 ≤ N ∧ N ≤ 128 := ⟨_, rfl, HF.out.2.2.2, HF.out.2.2.1⟩
    obtain ⟨M, hM⟩ : ∃ M : Int, M = 2 ^ n.toNat - 1 := ⟨_, rfl⟩
    have hn1 := HG.out.1.1
    have hn7 := HG.out.1.2.1
    have q2 : 0 ≤ M - x := by rw [hM]; exact HF.out.2.1
    have q3 : M ≤ 127 := by have := HF.out.2.2.1; omega
    have q4 : 0 ≤ x := HG.out.2.1
    have q5 : IntKind.i64.wrap (M - x) = M - x := IntWalk.i64_in _ (by omega)
    have q6 : IntKind.i64.wrap (1 * N) = N := IntWalk.i64_in _ (by omega) |>.trans (by omega)
    have q8 : N - 1 = M := by rw [hM, eN]
    have q7 : IntKind.i64.wrap (N - 1) = M := (IntWalk.i64_in _ (by omega)).trans q8
    have HM := Lib.hid hM
    clear hM
    by_cases hi : IndepS n l (M - x)
    · have HC3 : Hid (∀ X : Since w1, Calls Try.prog 73 #[.agg #[.int .i64 n, .slice a l.length cap], .int .i64 (M - x)] X.val fun e w' => e = .returned (.bool true) ∧ Below X.val.heap.size X.val w') := fun X => (specIndep n _ l (M - x) _ (HX.out X).2.2.1).mono fun _ _ h => h.is_yes hi
      have HI := Lib.hid hi
      clear hi
      repeat (go_big_quiet_step (first | exact since_call (HC1.out _) | exact since_call (HC3.out _)))
      refine wpQuiet_nil ?_
      intro X
      have HW := Lib.hid (HX.out X).2.2.2.1
      clear q2 q3 q4 q5 hx0 hx1 q6 q7 q8 eN
      go_wp2
      go_ret
      exact SaysB.yes ⟨HQ.out, by rw [← HM.out]; exact HI.out⟩ HW.out
    · have HC3 : Hid (∀ X : Since w1, Calls Try.prog 73 #[.agg #[.int .i64 n, .slice a l.length cap], .int .i64 (M - x)] X.val fun e w' => e = .returned (.bool false) ∧ Below X.val.heap.size X.val w') := fun X => (specIndep n _ l (M - x) _ (HX.out X).2.2.1).mono fun _ _ h => h.is_no hi
      have HI := Lib.hid hi
      clear hi
      repeat (go_big_quiet_step (first | exact since_call (HC1.out _) | exact since_call (HC3.out _)))
      refine wpQuiet_nil ?_
      intro X
      have HW := Lib.hid (HX.out X).2.2.2.1
      clear q2 q3 q4 q5 hx0 hx1 q6 q7 q8 eN
      go_wp2
      go_ret
      exact SaysB.no (fun h => HI.out (by rw [HM.out]; exact h.2)) HW.out
  · have HC1 : Hid (∀ X : Since w1, Calls Try.prog 72 #[.agg #[.int .i64 n, .slice a l.length cap], .int .i64 x] X.val fun e w' => e = .returned (.bool false) ∧ Below X.val.heap.size X.val w') := fun X => (specClique n _ l x _ (HX.out X).2.2.1).mono fun _ _ h => h.is_no hq
    have HQ := Lib.hid hq
    clear hq
    repeat (go_big_quiet_step (exact since_call (HC1.out _)))
    refine wpQuiet_nil ?_
    intro X
    have HW := Lib.hid (HX.out X).2.2.2.1
    clear hx0 hx1
    go_wp2
    go_ret
    exact SaysB.no (fun h => HQ.out h.1) HW.out

set_option maxHeartbeats 2000000 in
set_option maxRecDepth 100000 in
theorem implCover (n : Int) (v : Value) (l : List Int) (x : Int) (w : World) (h : Ints w v l) :
    Calls Try.prog 66 #[.agg #[.int .i64 n, v], .int .i64 x] w (SaysB (CoverS n l x) w) := by
  obtain ⟨a, cap, rfl, -, -⟩ := h.form
  have HA := argG' (T := 28) (n := n) h
  clear h
  obtain ⟨w1, hw1⟩ : ∃ w1, w1 = w.alloc (.cells #[.int .i64 n, .slice a l.length cap] 28) := ⟨_, rfl⟩
  have HX : Hid (∀ X : Since w1, ArgG 28 w n (.slice a l.length cap) l X.val) := fun X => HA.out _ (since_below hw1 (by simp) X)
  have hx0 : ∀ X : Since w1, X.val.cell? ⟨w.heap.size, 0, none⟩ = some (.int .i64 n) := fun X => (HX.out X).1
  have hx1 : ∀ X : Since w1, X.val.cell? ⟨w.heap.size, 1, none⟩ = some (.slice a l.length cap) := fun X => (HX.out X).2.1
  go_enter Try.func66, Try.ntmps66
  go_wp2
  rw [← hw1]
  clear hw1
  refine wp_region_since (by kernel_rfl) (by kernel_rfl) ?_
  by_cases hq : IsS n l x
  · have HC1 : Hid (∀ X : Since w1, Calls Try.prog 61 #[.agg #[.int .i64 n, .slice a l.length cap], .int .i64 x] X.val fun e w' => e = .returned (.bool true) ∧ Below X.val.heap.size X.val w') := fun X => (implIsSet n _ l x _ (HX.out X).2.2.1).mono fun _ _ h => h.is_yes hq
    have HQ := Lib.hid hq
    have HF := Lib.hid (rest_is (show IsS n l x from hq))
    have HG := Lib.hid (show IsS n l x from hq)
    clear hq
    obtain ⟨M, hM⟩ : ∃ M : Int, M = 2 ^ n.toNat - 1 := ⟨_, rfl⟩
    have HC2 : Hid (∀ X : Since w1, Calls Try.prog 68 #[.agg #[.int .i64 n, .slice a l.length cap]] X.val fun e w' => e = .returned (.int .i64 M) ∧ Below X.val.heap.size X.val w') := fun X => by rw [hM]; exact allVertices_is n _ l _ (HX.out X).2.2.1 HG.out.1.1 HG.out.1.2.1
    have q1 : bits .andNot .i64 M x = M - x := by rw [hM]; exact HF.out.1
    have q2 : 0 ≤ M - x := by rw [hM]; exact HF.out.2.1
    have q3 : M ≤ 127 := by have := HF.out.2.2.1; omega
    have q4 : 0 ≤ x := HG.out.2.1
    have q5 : IntKind.i64.wrap (M - x) = M - x := IntWalk.i64_in _ (by omega)
    have HM := Lib.hid hM
    clear hM
    by_cases hi : IndepS n l (M - x)
    · have HC3 : Hid (∀ X : Since w1, Calls Try.prog 82 #[.agg #[.int .i64 n, .slice a l.length cap], .int .i64 (M - x)] X.val fun e w' => e = .returned (.bool true) ∧ Below X.val.heap.size X.val w') := fun X => (implIndep n _ l (M - x) _ (HX.out X).2.2.1).mono fun _ _ h => h.is_yes hi
      have HI := Lib.hid hi
      clear hi
      repeat (go_big_quiet_step (first | exact since_call (HC1.out _) | exact since_call (HC2.out _) | exact since_call (HC3.out _)))
      refine wpQuiet_nil ?_
      intro X
      have HW := Lib.hid (HX.out X).2.2.2.1
      clear q2 q3 q4 q5 hx0 hx1 q1
      go_wp2
      go_ret
      exact SaysB.yes ⟨HQ.out, by rw [← HM.out]; exact HI.out⟩ HW.out
    · have HC3 : Hid (∀ X : Since w1, Calls Try.prog 82 #[.agg #[.int .i64 n, .slice a l.length cap], .int .i64 (M - x)] X.val fun e w' => e = .returned (.bool false) ∧ Below X.val.heap.size X.val w') := fun X => (implIndep n _ l (M - x) _ (HX.out X).2.2.1).mono fun _ _ h => h.is_no hi
      have HI := Lib.hid hi
      clear hi
      repeat (go_big_quiet_step (first | exact since_call (HC1.out _) | exact since_call (HC2.out _) | exact since_call (HC3.out _)))
      refine wpQuiet_nil ?_
      intro X
      have HW := Lib.hid (HX.out X).2.2.2.1
      clear q2 q3 q4 q5 hx0 hx1 q1
      go_wp2
      go_ret
      exact SaysB.no (fun h => HI.out (by rw [HM.out]; exact h.2)) HW.out
  · have HC1 : Hid (∀ X : Since w1, Calls Try.prog 61 #[.agg #[.int .i64 n, .slice a l.length cap], .int .i64 x] X.val fun e w' => e = .returned (.bool false) ∧ Below X.val.heap.size X.val w') := fun X => (implIsSet n _ l x _ (HX.out X).2.2.1).mono fun _ _ h => h.is_no hq
    have HQ := Lib.hid hq
    clear hq
    repeat (go_big_quiet_step (exact since_call (HC1.out _)))
    refine wpQuiet_nil ?_
    intro X
    have HW := Lib.hid (HX.out X).2.2.2.1
    clear hx0 hx1
    go_wp2
    go_ret
    exact SaysB.no (fun h => HQ.out h.1) HW.out

set_option maxHeartbeats 2000000 in
set_option maxRecDepth 100000 in
theorem specCover (n : Int) (v : Value) (l : List Int) (x : Int) (w : World) (h : Ints w v l) :
    Calls Try.prog 64 #[.agg #[.int .i64 n, v], .int .i64 x] w (SaysB (CoverS n l x) w) := by
  obtain ⟨a, cap, rfl, -, -⟩ := h.form
  have HA := argG' (T := 28) (n := n) h
  clear h
  obtain ⟨w1, hw1⟩ : ∃ w1, w1 = w.alloc (.cells #[.int .i64 n, .slice a l.length cap] 28) := ⟨_, rfl⟩
  have HX : Hid (∀ X : Since w1, ArgG 28 w n (.slice a l.length cap) l X.val) := fun X => HA.out _ (since_below hw1 (by simp) X)
  have hx0 : ∀ X : Since w1, X.val.cell? ⟨w.heap.size, 0, none⟩ = some (.int .i64 n) := fun X => (HX.out X).1
  have hx1 : ∀ X : Since w1, X.val.cell? ⟨w.heap.size, 1, none⟩ = some (.slice a l.length cap) := fun X => (HX.out X).2.1
  go_enter Try.func64, Try.ntmps64
  go_wp2
  rw [← hw1]
  clear hw1
  refine wp_region_since (by kernel_rfl) (by kernel_rfl) ?_
  by_cases hq : IsS n l x
  · have HC1 : Hid (∀ X : Since w1, Calls Try.prog 50 #[.agg #[.int .i64 n, .slice a l.length cap], .int .i64 x] X.val fun e w' => e = .returned (.bool true) ∧ Below X.val.heap.size X.val w') := fun X => (specIsSet n _ l x _ (HX.out X).2.2.1).mono fun _ _ h => h.is_yes hq
    have HQ := Lib.hid hq
    have HF := Lib.hid (rest_is (show IsS n l x from hq))
    have HG := Lib.hid (show IsS n l x from hq)
    clear hq
    obtain ⟨N, eN, hN1, hN2⟩ : ∃ N, (2 : Int) ^ n.toNat = N ∧ 1 ≤ N ∧ N ≤ 128 := ⟨_, rfl, HF.out.2.2.2, HF.out.2.2.1⟩
    obtain ⟨M, hM⟩ : ∃ M : Int, M = 2 ^ n.toNat - 1 := ⟨_, rfl⟩
    have hn1 := HG.out.1.1
    have hn7 := HG.out.1.2.1
    have q2 : 0 ≤ M - x := by rw [hM]; exact HF.out.2.1
    have q3 : M ≤ 127 := by have := HF.out.2.2.1; omega
    have q4 : 0 ≤ x := HG.out.2.1
    have q5 : IntKind.i64.wrap (M - x) = M - x := IntWalk.i64_in _ (by omega)
    have q6 : IntKind.i64.wrap (1 * N) = N := IntWalk.i64_in _ (by omega) |>.trans (by omega)
    have q8 : N - 1 = M := by rw [hM, eN]
    have q7 : IntKind.i64.wrap (N - 1) = M := (IntWalk.i64_in _ (by omega)).trans q8
    have HM := Lib.hid hM
    clear hM
    by_cases hi : IndepS n l (M - x)
    · have HC3 : Hid (∀ X : Since w1, Calls Try.prog 73 #[.agg #[.int .i64 n, .slice a l.length cap], .int .i64 (M - x)] X.val fun e w' => e = .returned (.bool true) ∧ Below X.val.heap.size X.val w') := fun X => (specIndep n _ l (M - x) _ (HX.out X).2.2.1).mono fun _ _ h => h.is_yes hi
      have HI := Lib.hid hi
      clear hi
      repeat (go_big_quiet_step (first | exact since_call (HC1.out _) | exact since_call (HC3.out _)))
      refine wpQuiet_nil ?_
      intro X
      have HW := Lib.hid (HX.out X).2.2.2.1
      clear q2 q3 q4 q5 hx0 hx1 q6 q7 q8 eN
      go_wp2
      go_ret
      exact SaysB.yes ⟨HQ.out, by rw [← HM.out]; exact HI.out⟩ HW.out
    · have HC3 : Hid (∀ X : Since w1, Calls Try.prog 73 #[.agg #[.int .i64 n, .slice a l.length cap], .int .i64 (M - x)] X.val fun e w' => e = .returned (.bool false) ∧ Below X.val.heap.size X.val w') := fun X => (specIndep n _ l (M - x) _ (HX.out X).2.2.1).mono fun _ _ h => h.is_no hi
      have HI := Lib.hid hi
      clear hi
      repeat (go_big_quiet_step (first | exact since_call (HC1.out _) | exact since_call (HC3.out _)))
      refine wpQuiet_nil ?_
      intro X
      have HW := Lib.hid (HX.out X).2.2.2.1
      clear q2 q3 q4 q5 hx0 hx1 q6 q7 q8 eN
      go_wp2
      go_ret
      exact SaysB.no (fun h => HI.out (by rw [HM.out]; exact h.2)) HW.out
  · have HC1 : Hid (∀ X : Since w1, Calls Try.prog 50 #[.agg #[.int .i64 n, .slice a l.length cap], .int .i64 x] X.val fun e w' => e = .returned (.bool false) ∧ Below X.val.heap.size X.val w') := fun X => (specIsSet n _ l x _ (HX.out X).2.2.1).mono fun _ _ h => h.is_no hq
    have HQ := Lib.hid hq
    clear hq
    repeat (go_big_quiet_step (exact since_call (HC1.out _)))
    refine wpQuiet_nil ?_
    intro X
    have HW := Lib.hid (HX.out X).2.2.2.1
    clear hx0 hx1
    go_wp2
    go_ret
    exact SaysB.no (fun h => HQ.out h.1) HW.out

end Go.Proofs.Ytbgkceekkinngaa
