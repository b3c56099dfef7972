/- SplitByDegrees. -/
import Derived.Test.YtpifgmmmmhenmabDi
namespace Go.Proofs.Ytpifgmmmmhenmab
set_option linter.unusedVariables false
set_option linter.unusedSimpArgs false
open Go.RowKit

/-- The sum of the first k numbers. -/
def sumI (L : List Int) : Nat → Int
  | 0 => 0
  | k + 1 => sumI L k + nth L k

theorem sumI_bd {L : List Int} (h : ∀ x ∈ L, 0 ≤ x ∧ x ≤ 7) : ∀ k, 0 ≤ sumI L k ∧ sumI L k ≤ 7 * (k : Int)
  | 0 => ⟨Int.le_refl _, Int.le_refl _⟩
  | k + 1 => by
    obtain ⟨h1, h2⟩ := sumI_bd h k
    have h3 : 0 ≤ nth L k ∧ nth L k ≤ 7 := by
      rcases Nat.lt_or_ge k L.length with h' | h'
      · exact h _ (nth_mem L k h')
      · simp [nth, List.getD, h']
    show 0 ≤ sumI L k + nth L k ∧ sumI L k + nth L k ≤ _
    push_cast
    omega

theorem sumI_take (L : List Int) (m : Nat) : ∀ k, k ≤ m → sumI (L.take m) k = sumI L k
  | 0, _ => rfl
  | k + 1, h => by
    show sumI (L.take m) k + nth (L.take m) k = sumI L k + nth L k
    rw [sumI_take L m k (by omega)]
    congr 1
    unfold nth List.getD
    rw [List.getElem?_take_of_lt (by omega)]

theorem sumI_drop (L : List Int) (m : Nat) : ∀ k, sumI L m + sumI (L.drop m) k = sumI L (m + k)
  | 0 => by simp [sumI]
  | k + 1 => by
    show sumI L m + (sumI (L.drop m) k + nth (L.drop m) k) = sumI L (m + k) + nth L (m + k)
    rw [← sumI_drop L m k]
    have : nth (L.drop m) k = nth L (m + k) := by unfold nth List.getD; rw [List.getElem?_drop]
    rw [this]
    omega

/-- How many degrees count as high. -/
def hiM (L : List Int) : Nat → Nat
  | 0 => 0
  | k + 1 => if (k : Int) ≤ nth L k then k + 1 else hiM L k

theorem hiM_le (L : List Int) : ∀ k, hiM L k ≤ k
  | 0 => Nat.le_refl _
  | k + 1 => by
    have := hiM_le L k
    unfold hiM
    split
    · exact Nat.le_refl _
    · omega

def SpD (n : Int) (l : List Int) : Prop := IsG n l ∧ sumI (degR n l) (hiM (degR n l) l.length) = (hiM (degR n l) l.length : Int) * ((hiM (degR n l) l.length : Int) - 1) + sumI ((degR n l).drop (hiM (degR n l) l.length)) (l.length - hiM (degR n l) l.length)

instance (n : Int) (l : List Int) : Decidable (SpD n l) := by unfold SpD; infer_instance

theorem degR_in (n : Int) (l : List Int) : ∀ x ∈ degR n l, 0 ≤ x ∧ x ≤ 7 := fun x hx => by
  unfold degR at hx
  split at hx
  · exact degL_in l _ x ((sortL_perm _).mem_iff.1 (List.mem_reverse.1 hx))
  · cases hx

theorem mul_bd {m : Nat} (h : m ≤ 7) : 0 ≤ (m : Int) * ((m : Int) - 1) ∧ (m : Int) * ((m : Int) - 1) ≤ 42 := by
  have : ∀ k : Fin 8, 0 ≤ ((k.val : Nat) : Int) * (((k.val : Nat) : Int) - 1) ∧ ((k.val : Nat) : Int) * (((k.val : Nat) : Int) - 1) ≤ 42 := by decide
  exact this ⟨m, by omega⟩

set_option maxHeartbeats 1000000 in
set_option maxRecDepth 100000 in
theorem sumOf_is (v : Value) (L : List Int) (w : World) (h : Ints w v L) (h7 : L.length ≤ 7) (hb : ∀ x ∈ L, 0 ≤ x ∧ x ≤ 7) :
    Calls Try.prog 46 #[v] w fun e w' => e = .returned (.int .i64 (sumI L L.length)) ∧ w = w' := by
  obtain ⟨a, cap, rfl, -, -⟩ := h.form
  have HI := Lib.hid h
  have HBD := Lib.hid hb
  clear h hb
  go_enter Try.func46, Try.ntmps46
  go_wp2
  go_loopw [3, 8] (fun s x wr => ∃ k : Nat, k ≤ L.length ∧ x = .int .i64 k ∧ s = .int .i64 (sumI L k) ∧ wr = w) (fun _ x _ => L.length - (intOf x).toNat)
  case atStart => exact ⟨0, by omega, rfl, rfl, rfl⟩
  case round =>
    obtain ⟨k, hk, rfl, rfl, rfl⟩ := hrel
    by_cases hlt : k < L.length
    · have d0 : decide ((k : Int) < (L.length : Int)) = true := decide_eq_true (by omega)
      have d0' : decide (k < L.length) = true := decide_eq_true hlt
      obtain ⟨bl, offl, cl, hv, _, hml1, hbl, hcl⟩ := HI.out.pos (by omega)
      simp only [Value.slice.injEq] at hv
      obtain ⟨rfl, -, rfl⟩ := hv
      have f1 := hcl k hlt
      have s1 := sumI_bd HBD.out k
      have s2 := sumI_bd HBD.out (k + 1)
      have HS := Lib.hid (show sumI L (k + 1) = sumI L k + nth L k from rfl)
      rw [HS.out] at s2
      obtain ⟨T, hT⟩ : ∃ T, T = nth L k := ⟨_, rfl⟩
      obtain ⟨S, hS⟩ : ∃ S, S = sumI L k := ⟨_, rfl⟩
      rw [← hT] at f1 s2 HS
      rw [← hS] at s1 s2 HS
      have e1 : IntKind.i64.wrap (S + T) = S + T := IntWalk.i64_in _ (by push_cast at s2; omega)
      unfold maxLen at hml1
      rw [← hS]
      clear hcl hT hS s1 s2
      go_wp2
      go_roundw
      case rel => exact ⟨k + 1, by omega, by go_num, by rw [HS.out], trivial⟩
      case measure => simp [intOf]; omega
    · obtain rfl : k = L.length := by omega
      have d0 : decide ((L.length : Int) < (L.length : Int)) = false := by simp
      have d0' : decide (L.length < L.length) = false := by simp
      go_wp2
      go_ret
      exact ⟨rfl, rfl⟩

set_option maxHeartbeats 4000000 in
set_option maxRecDepth 100000 in
theorem implSplitD (n : Int) (v : Value) (l : List Int) (w : World) (h : Ints w v l) :
    Calls Try.prog 19 #[.agg #[.int .i64 n, v]] w (SaysB (SpD n l) w) := by
  obtain ⟨a, cap, rfl, -, -⟩ := h.form
  have HA := argG' (T := 27) (n := n) h
  have HI := Lib.hid h
  clear h
  go_enter Try.func19, Try.ntmps19
  go_wp2_with fail
  refine (implDegrees n _ l _ (HI.out.alloc _)).mono ?_
  rintro e w1 ⟨v1, rfl, ho, hb⟩
  have HB := Lib.hid (hb.mono (B' := w.heap.size + 1) (by simp))
  have HO := Lib.hid ho
  clear hb ho
  obtain ⟨D, hD⟩ : ∃ D, D = degR n l := ⟨_, rfl⟩
  rw [← hD] at HO
  have HDE := Lib.hid hD
  have hD7 : D.length ≤ 7 := by rw [hD]; exact degR_bd n l
  have HDB := Lib.hid (show ∀ x ∈ D, 0 ≤ x ∧ x ≤ 7 by rw [hD]; exact degR_in n l)
  obtain ⟨ad, cd, rfl, -, -⟩ := HO.out.ints.form
  clear hD
  go_wp2
  go_loopw [4, 11] (fun s x wr => ∃ k : Nat, k ≤ D.length ∧ x = .int .i64 k ∧ s = .int .i64 (hiM D k) ∧ wr = w1) (fun _ x _ => D.length - (intOf x).toNat)
  case atStart => exact ⟨0, by omega, rfl, rfl, rfl⟩
  case round =>
    obtain ⟨k, hk, rfl, rfl, hwr⟩ := hrel
    rw [hwr]
    clear hwr
    by_cases hlt : k < D.length
    · have d0 : decide ((k : Int) < (D.length : Int)) = true := decide_eq_true (by omega)
      have d0' : decide (k < D.length) = true := decide_eq_true hlt
      obtain ⟨bl, offl, cl, hv, _, hml1, hbl, hcl⟩ := HO.out.ints.pos (by omega)
      simp only [Value.slice.injEq] at hv
      obtain ⟨rfl, -, rfl⟩ := hv
      have f1 := hcl k hlt
      have HS := Lib.hid (show hiM D (k + 1) = if (k : Int) ≤ nth D k then k + 1 else hiM D k from rfl)
      obtain ⟨T, hT⟩ : ∃ T, T = nth D k := ⟨_, rfl⟩
      obtain ⟨S, hS⟩ : ∃ S, S = hiM D k := ⟨_, rfl⟩
      rw [← hT] at f1 HS
      rw [← hS] at HS ⊢
      unfold maxLen at hml1
      clear hcl hT hS
      by_cases hge : (k : Int) ≤ T
      · have d1 : decide (T ≥ (k : Int)) = true := decide_eq_true hge
        have d1' : decide ((k : Int) ≤ T) = true := decide_eq_true hge
        have HS2 := Lib.hid (HS.out.trans (if_pos hge))
        clear HS
        go_wp2
        go_roundw
        case rel => exact ⟨k + 1, by omega, by go_num, by rw [HS2.out]; go_num, trivial⟩
        case measure => simp [intOf]; omega
      · have d1 : decide (T ≥ (k : Int)) = false := decide_eq_false hge
        have d1' : decide ((k : Int) ≤ T) = false := decide_eq_false hge
        have HS2 := Lib.hid (HS.out.trans (if_neg hge))
        clear HS
        go_wp2
        go_roundw
        case rel => exact ⟨k + 1, by omega, by go_num, by rw [HS2.out], trivial⟩
        case measure => simp [intOf]; omega
    · obtain rfl : k = D.length := by omega
      have d0 : decide ((D.length : Int) < (D.length : Int)) = false := by simp
      have d0' : decide (D.length < D.length) = false := by simp
      have hme := hiM_le D D.length
      obtain ⟨m, hm⟩ : ∃ m, m = hiM D D.length := ⟨_, rfl⟩
      rw [← hm] at hme ⊢
      have HM := Lib.hid hm
      clear hm hk hlt
      go_wp2
      have HX : Hid (∀ X : Since w1, ArgG 27 w n (.slice a l.length cap) l X.val) := fun X => HA.out _ (HB.out.trans (X.prop.mono (HA.out _ HB.out).2.2.2.2))
      have hx0 : ∀ X : Since w1, X.val.cell? ⟨w.heap.size, 0, none⟩ = some (.int .i64 n) := fun X => (HX.out X).1
      have hx1 : ∀ X : Since w1, X.val.cell? ⟨w.heap.size, 1, none⟩ = some (.slice a l.length cap) := fun X => (HX.out X).2.1
      by_cases hg : IsG n l
      · have HG := Lib.hid hg
        have HC1 : Hid (∀ X : Since w1, Calls Try.prog 42 #[.agg #[.int .i64 n, .slice a l.length cap]] X.val fun e w' => e = .returned (.bool true) ∧ Below X.val.heap.size X.val w') := fun X =>
          (implIsG_any n _ l X.val (HX.out X).2.2.1).mono fun e w' ⟨r, he, hr, hb⟩ => ⟨by rw [he]; cases r <;> simp_all, hb⟩
        have hDl : D.length = l.length := by rw [HDE.out]; exact degR_length hg
        have hl1 : 0 < D.length := by have := hg.1; have := hg.2.2.1; omega
        have HDL := Lib.hid hDl
        obtain ⟨b0, off0, cd0, hv, hcd, hml1, hbl, -⟩ := HO.out.ints.pos hl1
        simp only [Value.slice.injEq] at hv
        obtain ⟨rfl, -, rfl⟩ := hv
        obtain ⟨b1, cd1, hv, -, -⟩ := HO.out.2.form hl1
        simp only [Value.slice.injEq, Option.some.injEq, Addr.mk.injEq] at hv
        obtain ⟨⟨rfl, rfl, -⟩, -, rfl⟩ := hv
        have hmc : m ≤ cd := by omega
        obtain ⟨S1, hS1⟩ : ∃ S1, S1 = sumI D m := ⟨_, rfl⟩
        obtain ⟨S2, hS2⟩ : ∃ S2, S2 = sumI (D.drop m) (D.length - m) := ⟨_, rfl⟩
        have HOI := Lib.hid HO.out.ints
        have HC2 : Hid (∀ X : Since w1, Calls Try.prog 46 #[.slice (some ⟨b0, 0, none⟩) m cd] X.val fun e w' => e = .returned (.int .i64 S1) ∧ Below X.val.heap.size X.val w') := fun X => by
          have h1 := ((HOI.out.on X.prop).take (i := m) (by omega))
          have h2 := sumOf_is _ _ X.val h1 (by rw [List.length_take]; omega) (fun x hx => HDB.out x (List.mem_of_mem_take hx))
          refine h2.mono ?_
          rintro e w' ⟨rfl, rfl⟩
          refine ⟨?_, Below.refl _ _⟩
          rw [hS1, List.length_take, Nat.min_eq_left hme, sumI_take D m m (Nat.le_refl _)]
        have HC3 : Hid (∀ X : Since w1, Calls Try.prog 46 #[.slice (if cd = m then some ⟨b0, 0, none⟩ else some ⟨b0, m, none⟩) (D.length - m) (cd - m)] X.val fun e w' => e = .returned (.int .i64 S2) ∧ Below X.val.heap.size X.val w') := fun X => by
          have h1 := ((HOI.out.on X.prop).dropF (i := m) (by omega))
          have h2 := sumOf_is _ _ X.val h1 (by rw [List.length_drop]; omega) (fun x hx => HDB.out x (List.mem_of_mem_drop hx))
          refine h2.mono ?_
          rintro e w' ⟨rfl, rfl⟩
          refine ⟨?_, Below.refl _ _⟩
          rw [hS2, List.length_drop]
        have s1 := sumI_bd (L := D) HDB.out m
        have s2 := sumI_bd (L := D.drop m) (fun x hx => HDB.out x (List.mem_of_mem_drop hx)) (D.length - m)
        rw [← hS1] at s1
        rw [← hS2] at s2
        have hmm := mul_bd (m := m) (by omega)
        have g1 : IntKind.i64.wrap ((m : Int) - 1) = (m : Int) - 1 := IntWalk.i64_in _ (by omega)
        obtain ⟨M1, hM1⟩ : ∃ M1, M1 = (m : Int) - 1 := ⟨_, rfl⟩
        rw [← hM1] at g1 hmm
        obtain ⟨M2, hM2⟩ : ∃ M2, M2 = (m : Int) * M1 := ⟨_, rfl⟩
        rw [← hM2] at hmm
        have g2 : IntKind.i64.wrap ((m : Int) * M1) = M2 := by rw [← hM2]; exact IntWalk.i64_in _ (by omega)
        have g3 : IntKind.i64.wrap (M2 + S2) = M2 + S2 := IntWalk.i64_in _ (by omega)
        have g1' : IntKind.i64.wrap ((m : Int) - 1) = M1 := by rw [← hM1] ; exact g1
        have HEQ := Lib.hid (show SpD n l ↔ (S1 == M2 + S2) = true by
          unfold SpD
          rw [← HDE.out, ← HDL.out, ← HM.out, ← hS1, ← hS2, ← hM1, ← hM2, beq_iff_eq]
          exact ⟨fun h => h.2, fun h => ⟨HG.out, h⟩⟩)
        clear hS1 hS2 s1 s2 hM1 hM2 hg hDl g1
        refine wp_region_since (by kernel_rfl) (by kernel_rfl) ?_
        repeat (go_big_quiet_step (first | with_reducible exact since_call (HC1.out _) | with_reducible exact since_call (HC2.out _) | with_reducible exact since_call (HC3.out _)))
        refine wpQuiet_nil ?_
        intro X
        have HW := Lib.hid (HX.out X).2.2.2.1
        have HEQ2 := HEQ.out
        generalize (S1 == M2 + S2) = bb at HEQ2 ⊢
        have HE3 := Lib.hid HEQ2
        clear hx0 hx1 HEQ2 HEQ
        go_wp2
        all_goals
          go_ret
          exact ⟨bb, rfl, HE3.out.symm, HW.out⟩
      · have HNO := Lib.hid (show ¬ SpD n l from fun h => hg h.1)
        have HC1 : Hid (∀ X : Since w1, Calls Try.prog 42 #[.agg #[.int .i64 n, .slice a l.length cap]] X.val fun e w' => e = .returned (.bool false) ∧ Below X.val.heap.size X.val w') := fun X =>
          (implIsG_any n _ l X.val (HX.out X).2.2.1).mono fun e w' ⟨r, he, hr, hb⟩ => ⟨by rw [he]; cases r <;> simp_all, hb⟩
        clear hg hme
        refine wp_region_since (by kernel_rfl) (by kernel_rfl) ?_
        repeat (go_big_quiet_step (with_reducible exact since_call (HC1.out _)))
        refine wpQuiet_nil ?_
        intro X
        have HW := Lib.hid (HX.out X).2.2.2.1
        clear hx0 hx1
        go_wp2
        go_ret
        exact SaysB.no HNO.out HW.out

set_option maxHeartbeats 4000000 in
set_option maxRecDepth 100000 in
theorem specSplitD (n : Int) (v : Value) (l : List Int) (w : World) (h : Ints w v l) :
    Calls Try.prog 18 #[.agg #[.int .i64 n, v]] w (SaysB (SpD n l) w) := by
  obtain ⟨a, cap, rfl, -, -⟩ := h.form
  have HA := argG' (T := 27) (n := n) h
  have HI := Lib.hid h
  clear h
  go_enter Try.func18, Try.ntmps18
  go_wp2_with fail
  refine (specDegrees n _ l _ (HI.out.alloc _)).mono ?_
  rintro e w1 ⟨v1, rfl, ho, hb⟩
  have HB := Lib.hid (hb.mono (B' := w.heap.size + 1) (by simp))
  have HO := Lib.hid ho
  clear hb ho
  obtain ⟨D, hD⟩ : ∃ D, D = degR n l := ⟨_, rfl⟩
  rw [← hD] at HO
  have HDE := Lib.hid hD
  have hD7 : D.length ≤ 7 := by rw [hD]; exact degR_bd n l
  have HDB := Lib.hid (show ∀ x ∈ D, 0 ≤ x ∧ x ≤ 7 by rw [hD]; exact degR_in n l)
  obtain ⟨ad, cd, rfl, -, -⟩ := HO.out.ints.form
  clear hD
  go_wp2
  go_loopw [4, 5] (fun s x wr => ∃ k : Nat, k ≤ D.length ∧ x = .int .i64 k ∧ s = .int .i64 (hiM D k) ∧ wr = w1) (fun _ x _ => D.length - (intOf x).toNat)
  case atStart => exact ⟨0, by omega, rfl, rfl, rfl⟩
  case round =>
    obtain ⟨k, hk, rfl, rfl, hwr⟩ := hrel
    rw [hwr]
    clear hwr
    by_cases hlt : k < D.length
    · have d0 : decide ((k : Int) < (D.length : Int)) = true := decide_eq_true (by omega)
      have d0' : decide (k < D.length) = true := decide_eq_true hlt
      obtain ⟨bl, offl, cl, hv, _, hml1, hbl, hcl⟩ := HO.out.ints.pos (by omega)
      simp only [Value.slice.injEq] at hv
      obtain ⟨rfl, -, rfl⟩ := hv
      have f1 := hcl k hlt
      have HS := Lib.hid (show hiM D (k + 1) = if (k : Int) ≤ nth D k then k + 1 else hiM D k from rfl)
      obtain ⟨T, hT⟩ : ∃ T, T = nth D k := ⟨_, rfl⟩
      obtain ⟨S, hS⟩ : ∃ S, S = hiM D k := ⟨_, rfl⟩
      rw [← hT] at f1 HS
      rw [← hS] at HS ⊢
      unfold maxLen at hml1
      clear hcl hT hS
      by_cases hge : (k : Int) ≤ T
      · have d1 : decide (T ≥ (k : Int)) = true := decide_eq_true hge
        have d1' : decide ((k : Int) ≤ T) = true := decide_eq_true hge
        have HS2 := Lib.hid (HS.out.trans (if_pos hge))
        clear HS
        go_wp2
        go_roundw
        case rel => exact ⟨k + 1, by omega, by go_num, by rw [HS2.out]; go_num, trivial⟩
        case measure => simp [intOf]; omega
      · have d1 : decide (T ≥ (k : Int)) = false := decide_eq_false hge
        have d1' : decide ((k : Int) ≤ T) = false := decide_eq_false hge
        have HS2 := Lib.hid (HS.out.trans (if_neg hge))
        clear HS
        go_wp2
        go_roundw
        case rel => exact ⟨k + 1, by omega, by go_num, by rw [HS2.out], trivial⟩
        case measure => simp [intOf]; omega
    · obtain rfl : k = D.length := by omega
      have d0 : decide ((D.length : Int) < (D.length : Int)) = false := by simp
      have d0' : decide (D.length < D.length) = false := by simp
      have hme := hiM_le D D.length
      obtain ⟨m, hm⟩ : ∃ m, m = hiM D D.length := ⟨_, rfl⟩
      rw [← hm] at hme ⊢
      have HM := Lib.hid hm
      clear hm hk hlt
      go_wp2
      go_loopw [6, 7, 8] (fun s t x wr => ∃ k : Nat, k ≤ D.length ∧ x = .int .i64 k ∧ s = .int .i64 (sumI D (min k m)) ∧ t = .int .i64 (sumI D k - sumI D (min k m)) ∧ wr = w1) (fun _ _ x _ => D.length - (intOf x).toNat)
      case atStart => exact ⟨0, by omega, rfl, by rw [Nat.zero_min]; rfl, by rw [Nat.zero_min]; rfl, rfl⟩
      case round =>
        obtain ⟨k, hk, rfl, rfl, rfl, hwr⟩ := hrel
        rw [hwr]
        clear hwr
        by_cases hlt : k < D.length
        · have d0 : decide ((k : Int) < (D.length : Int)) = true := decide_eq_true (by omega)
          have d0' : decide (k < D.length) = true := decide_eq_true hlt
          obtain ⟨bl, offl, cl, hv, _, hml1, hbl, hcl⟩ := HO.out.ints.pos (by omega)
          simp only [Value.slice.injEq] at hv
          obtain ⟨rfl, -, rfl⟩ := hv
          have f1 := hcl k hlt
          have HS := Lib.hid (show sumI D (k + 1) = sumI D k + nth D k from rfl)
          have s1 := sumI_bd HDB.out k
          have s2 := sumI_bd HDB.out (k + 1)
          rw [HS.out] at s2
          obtain ⟨T, hT⟩ : ∃ T, T = nth D k := ⟨_, rfl⟩
          rw [← hT] at f1 HS s2
          have hTb := HDB.out (nth D k) (nth_mem D k hlt)
          rw [← hT] at hTb
          unfold maxLen at hml1
          clear hcl hT
          by_cases hkm : k < m
          · have d1 : decide ((k : Int) < (m : Int)) = true := decide_eq_true (by omega)
            have d1' : decide (k < m) = true := decide_eq_true hkm
            have m1 : min k m = k := by omega
            have m2 : min (k + 1) m = k + 1 := by omega
            have HM2 := Lib.hid m2
            rw [m1]
            obtain ⟨S, hS⟩ : ∃ S, S = sumI D k := ⟨_, rfl⟩
            rw [← hS] at s1 s2 HS ⊢
            have e1 : IntKind.i64.wrap (S + T) = S + T := IntWalk.i64_in _ (by omega)
            clear m1 m2 hS s1 s2
            go_wp2
            go_roundw
            case rel => exact ⟨k + 1, by omega, by go_num, by rw [HM2.out, HS.out], by rw [HM2.out]; go_num, trivial⟩
            case measure => simp [intOf]; omega
          · have d1 : decide ((k : Int) < (m : Int)) = false := decide_eq_false (by omega)
            have d1' : decide (k < m) = false := decide_eq_false hkm
            have m1 : min k m = m := by omega
            have m2 : min (k + 1) m = m := by omega
            have HM2 := Lib.hid m2
            have s3 := sumI_bd HDB.out m
            rw [m1]
            obtain ⟨S, hS⟩ : ∃ S, S = sumI D k := ⟨_, rfl⟩
            obtain ⟨Z, hZ⟩ : ∃ Z, Z = sumI D m := ⟨_, rfl⟩
            rw [← hS] at s1 s2 HS
            rw [← hS, ← hZ]
            rw [← hZ] at s3
            have HZ := Lib.hid hZ
            obtain ⟨Y, hY⟩ : ∃ Y, Y = S - Z := ⟨_, rfl⟩
            have e1 : IntKind.i64.wrap (Y + T) = Y + T := IntWalk.i64_in _ (by omega)
            have HY := Lib.hid hY
            rw [← hY]
            clear m1 m2 hS hZ hY s1 s2 s3
            go_wp2
            go_roundw
            case rel => exact ⟨k + 1, by omega, by go_num, by rw [HM2.out, HZ.out], by rw [HM2.out, HS.out, ← HZ.out, HY.out]; congr 1; omega, trivial⟩
            case measure => simp [intOf]; omega
        · obtain rfl : k = D.length := by omega
          have d0 : decide ((D.length : Int) < (D.length : Int)) = false := by simp
          have d0' : decide (D.length < D.length) = false := by simp
          have m1 : min D.length m = m := by omega
          rw [m1]
          have s1 := sumI_bd HDB.out m
          have s2 := sumI_bd (L := D.drop m) (fun x hx => HDB.out x (List.mem_of_mem_drop hx)) (D.length - m)
          have s3 := sumI_drop D m (D.length - m)
          rw [show m + (D.length - m) = D.length by omega] at s3
          have hmm := mul_bd (m := m) (by omega)
          obtain ⟨S1, hS1⟩ : ∃ S1, S1 = sumI D m := ⟨_, rfl⟩
          obtain ⟨S2, hS2⟩ : ∃ S2, S2 = sumI (D.drop m) (D.length - m) := ⟨_, rfl⟩
          rw [← hS1] at s1
          rw [← hS2] at s2
          have hS2' : sumI D D.length - S1 = S2 := by rw [← s3, hS1, hS2]; omega
          rw [← hS1, hS2']
          have g1 : IntKind.i64.wrap ((m : Int) - 1) = (m : Int) - 1 := IntWalk.i64_in _ (by omega)
          obtain ⟨M1, hM1⟩ : ∃ M1, M1 = (m : Int) - 1 := ⟨_, rfl⟩
          rw [← hM1] at g1 hmm
          obtain ⟨M2, hM2⟩ : ∃ M2, M2 = (m : Int) * M1 := ⟨_, rfl⟩
          rw [← hM2] at hmm
          have g2 : IntKind.i64.wrap ((m : Int) * M1) = M2 := by rw [← hM2]; exact IntWalk.i64_in _ (by omega)
          have g3 : IntKind.i64.wrap (M2 + S2) = M2 + S2 := IntWalk.i64_in _ (by omega)
          have g1' : IntKind.i64.wrap ((m : Int) - 1) = M1 := by rw [← hM1] ; exact g1
          have HEQ := Lib.hid (show IsG n l → (SpD n l ↔ (S1 == M2 + S2) = true) from fun hg => by
            have hDl : D.length = l.length := by rw [HDE.out]; exact degR_length hg
            unfold SpD
            rw [← HDE.out, ← hDl, ← HM.out, ← hS1, ← hS2, ← hM1, ← hM2, beq_iff_eq]
            exact ⟨fun h => h.2, fun h => ⟨hg, h⟩⟩)
          clear hS1 hS2 s1 s2 s3 hS2' hM1 hM2 g1 m1 hmm hme
          obtain ⟨c0, c1, cI, cB, hz⟩ := HA.out _ HB.out
          have HCI := Lib.hid cI
          have HCB := Lib.hid cB
          clear cI cB
          go_wp2_with fail
          refine (specIsG_any n _ l _ HCI.out).mono ?_
          rintro e w2 ⟨r, rfl, hr, hb⟩
          have HB2 := Lib.hid (HCB.out.trans (hb.mono HCB.out.size))
          have HR := Lib.hid hr
          clear hb hr c0 c1 hz
          cases r with
          | false =>
            have HNO := Lib.hid (show ¬ SpD n l from fun h => absurd (HR.out.2 h.1) (by decide))
            go_wp2
            go_ret
            exact SaysB.no HNO.out HB2.out
          | true =>
            have HEQ2 := HEQ.out (HR.out.1 rfl)
            obtain ⟨bb, hbb⟩ : ∃ bb, bb = (S1 == M2 + S2) := ⟨_, rfl⟩
            rw [← hbb] at HEQ2
            have HE3 := Lib.hid HEQ2
            have hbb' : (S1 == M2 + S2) = bb := hbb.symm
            clear HEQ2 HEQ hbb
            go_wp2
            go_ret
            exact ⟨bb, rfl, HE3.out.symm, HB2.out⟩

end Go.Proofs.Ytpifgmmmmhenmab
