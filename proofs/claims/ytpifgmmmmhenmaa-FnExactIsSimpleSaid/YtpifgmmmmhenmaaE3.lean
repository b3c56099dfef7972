/- IsDominating, IsPacking. -/
import Derived.Test.YtpifgmmmmhenmaaT1
import Derived.Test.YtpifgmmmmhenmaaV7
import Derived.Test.YtpifgmmmmhenmaaH3
namespace Go.Proofs.Ytpifgmmmmhenmaa
set_option linter.unusedVariables false
set_option linter.unusedSimpArgs false
open Go.RowKit

/-- A set around which all vertices lie. -/
def DomS (n : Int) (l : List Int) (x : Int) : Prop := IsS n l x ∧ aroundR n l x = 2 ^ n.toNat - 1

instance (n : Int) (l : List Int) (x : Int) : Decidable (DomS n l x) := by unfold DomS; infer_instance

theorem memN_one (v : Nat) (hv : v < 7) : memN (2 ^ v) = [v] := by
  have : ∀ v : Fin 7, memN (2 ^ v.val) = [v.val] := by decide +kernel
  exact this ⟨v, hv⟩

/-- A vertex with its neighbours. -/
def clsN (l : List Int) (v : Nat) : Nat := rowN l v ||| 2 ^ v

theorem cls_lt {n : Int} {l : List Int} (hg : IsG n l) {v : Nat} (hv : v < l.length) : clsN l v < 128 := by
  have h7 : l.length ≤ 7 := by have := hg.2.1; have := hg.2.2.1; omega
  have h1 := (hg.row_lt v hv).1
  have h2 : 2 ^ v < 2 ^ l.length := Nat.pow_lt_pow_right (by decide) hv
  have h3 := two_le _ h7
  exact Nat.lt_of_lt_of_le (Nat.or_lt_two_pow h1 h2) h3

theorem around_one {n : Int} {l : List Int} (hg : IsG n l) {v : Nat} (hv : v < l.length) : aroundR n l ((2 ^ v : Nat) : Int) = ((clsN l v : Nat) : Int) := by
  have h7 : l.length ≤ 7 := by have := hg.2.1; have := hg.2.2.1; omega
  have h2 : 2 ^ v < 2 ^ l.length := Nat.pow_lt_pow_right (by decide) hv
  unfold aroundR
  rw [if_pos (isS_nat hg h2), Int.toNat_natCast]
  unfold aroundN clsN
  rw [memN_one v (by omega)]
  simp only [foldN, List.foldl_cons, List.foldl_nil]
  rw [Nat.or_comm]

/-- A set of which no vertex is, or has as neighbours, two. -/
def PackS (n : Int) (l : List Int) (x : Int) : Prop := IsS n l x ∧ ∀ v, v < l.length → popU ((clsN l v &&& x.toNat : Nat) : Int) ≤ 1

instance (n : Int) (l : List Int) (x : Int) : Decidable (PackS n l x) := by unfold PackS; infer_instance

/-- A choice in its box. -/
theorem argC {w : World} {n x : Int} {a : Option Addr} {len cap : Nat} {l : List Int} (h : Ints w (.slice a len cap) l) :
    Hid (∀ wr, Below (w.heap.size + 1) (w.alloc (.cells #[.int .i64 n, .slice a len cap, .int .i64 x] 147)) wr → wr.cell? ⟨w.heap.size, 0, none⟩ = some (.int .i64 n) ∧ wr.cell? ⟨w.heap.size, 1, none⟩ = some (.slice a len cap) ∧ wr.cell? ⟨w.heap.size, 2, none⟩ = some (.int .i64 x) ∧ Ints wr (.slice a len cap) l ∧ Below w.heap.size w wr ∧ w.heap.size < wr.heap.size) := fun wr hb => by
  have hz := hb.size
  simp at hz
  exact ⟨by rw [hb.cell (p := ⟨w.heap.size, 0, none⟩) (by simp)]; simp [go_sem], by rw [hb.cell (p := ⟨w.heap.size, 1, none⟩) (by simp)]; simp [go_sem], by rw [hb.cell (p := ⟨w.heap.size, 2, none⟩) (by simp)]; simp [go_sem], (h.alloc _).below hb (by simp), ((Below.refl _ w).alloc (Nat.le_refl _) _).trans (hb.mono (by omega)), by omega⟩

set_option maxHeartbeats 2000000 in
set_option maxRecDepth 100000 in
theorem dominates_is (n : Int) (v : Value) (l : List Int) (x : Int) (w : World) (h : Ints w v l) :
    Calls Try.prog 139 #[.agg #[.int .i64 n, v, .int .i64 x]] w (SaysB (DomS n l x) w) := by
  obtain ⟨a, cap, rfl, -, -⟩ := h.form
  have HA := argC (n := n) (x := x) h
  clear h
  obtain ⟨w1, hw1⟩ : ∃ w1, w1 = w.alloc (.cells #[.int .i64 n, .slice a l.length cap, .int .i64 x] 147) := ⟨_, rfl⟩
  have HX := Lib.hid (fun X : Since w1 => HA.out _ (since_below hw1 (by simp) X))
  have hx0 : ∀ X : Since w1, X.val.cell? ⟨w.heap.size, 0, none⟩ = some (.int .i64 n) := fun X => (HX.out X).1
  have hx1 : ∀ X : Since w1, X.val.cell? ⟨w.heap.size, 1, none⟩ = some (.slice a l.length cap) := fun X => (HX.out X).2.1
  have hx2 : ∀ X : Since w1, X.val.cell? ⟨w.heap.size, 2, none⟩ = some (.int .i64 x) := fun X => (HX.out X).2.2.1
  go_enter Try.func139, Try.ntmps139
  go_wp2
  rw [← hw1]
  clear hw1
  refine wp_region_since (by kernel_rfl) (by kernel_rfl) ?_
  by_cases hq : IsS n l x
  · have HC1 : Hid (∀ X : Since w1, Calls Try.prog 126 #[.agg #[.int .i64 n, .slice a l.length cap], .int .i64 x] X.val fun e w' => e = .returned (.bool true) ∧ Below X.val.heap.size X.val w') := fun X => (implIsSet n _ l x _ (HX.out X).2.2.2.1).mono fun _ _ h => h.is_yes hq
    have HQ := Lib.hid hq
    have HF := Lib.hid (rest_is hq)
    obtain ⟨Z, hZ⟩ : ∃ Z : Int, Z = aroundR n l x := ⟨_, rfl⟩
    obtain ⟨M, hM⟩ : ∃ M : Int, M = 2 ^ n.toNat - 1 := ⟨_, rfl⟩
    have HC2 : Hid (∀ X : Since w1, Calls Try.prog 128 #[.agg #[.int .i64 n, .slice a l.length cap], .int .i64 x] X.val fun e w' => e = .returned (.int .i64 Z) ∧ Below X.val.heap.size X.val w') := fun X => by rw [hZ]; exact implAround n _ l x _ (HX.out X).2.2.2.1
    have HC3 : Hid (∀ X : Since w1, Calls Try.prog 131 #[.agg #[.int .i64 n, .slice a l.length cap]] X.val fun e w' => e = .returned (.int .i64 M) ∧ Below X.val.heap.size X.val w') := fun X => by rw [hM]; exact allVertices_is n _ l _ (HX.out X).2.2.2.1 HQ.out.1.1 HQ.out.1.2.1
    clear hq
    have HD := Lib.hid (show DomS n l x ↔ Z = M by rw [hZ, hM]; exact ⟨fun h => h.2, fun h => ⟨HQ.out, h⟩⟩)
    clear hZ hM
    by_cases hzm : Z = M
    · have d1 : (Z == M) = true := by rw [beq_iff_eq]; exact hzm
      have HY := Lib.hid (HD.out.2 hzm)
      clear hzm
      repeat (go_big_quiet_step (first | with_reducible exact since_call (HC1.out _) | with_reducible exact since_call (HC2.out _) | with_reducible exact since_call (HC3.out _)))
      refine wpQuiet_nil ?_
      intro X
      have HW := Lib.hid (HX.out X).2.2.2.2.1
      clear hx0 hx1 hx2
      go_wp2
      go_ret
      exact SaysB.yes HY.out HW.out
    · have d1 : (Z == M) = false := by rw [beq_eq_false_iff_ne]; exact hzm
      have HY := Lib.hid (fun h => hzm (HD.out.1 h))
      clear hzm
      repeat (go_big_quiet_step (first | with_reducible exact since_call (HC1.out _) | with_reducible exact since_call (HC2.out _) | with_reducible exact since_call (HC3.out _)))
      refine wpQuiet_nil ?_
      intro X
      have HW := Lib.hid (HX.out X).2.2.2.2.1
      clear hx0 hx1 hx2
      go_wp2
      go_ret
      exact SaysB.no HY.out HW.out
  · have HC1 : Hid (∀ X : Since w1, Calls Try.prog 126 #[.agg #[.int .i64 n, .slice a l.length cap], .int .i64 x] X.val fun e w' => e = .returned (.bool false) ∧ Below X.val.heap.size X.val w') := fun X => (implIsSet n _ l x _ (HX.out X).2.2.2.1).mono fun _ _ h => h.is_no hq
    have HQ := Lib.hid hq
    clear hq
    repeat (go_big_quiet_step (with_reducible exact since_call (HC1.out _)))
    refine wpQuiet_nil ?_
    intro X
    have HW := Lib.hid (HX.out X).2.2.2.2.1
    clear hx0 hx1 hx2
    go_wp2
    go_ret
    exact SaysB.no (fun h => HQ.out h.1) HW.out

set_option maxHeartbeats 2000000 in
set_option maxRecDepth 100000 in
theorem specDom (n : Int) (v : Value) (l : List Int) (x : Int) (w : World) (h : Ints w v l) :
    Calls Try.prog 134 #[.agg #[.int .i64 n, v], .int .i64 x] w (SaysB (DomS n l x) w) := by
  obtain ⟨a, cap, rfl, -, -⟩ := h.form
  have HA := argG' (T := 31) (n := n) h
  clear h
  obtain ⟨w1, hw1⟩ : ∃ w1, w1 = w.alloc (.cells #[.int .i64 n, .slice a l.length cap] 31) := ⟨_, rfl⟩
  have HX : Hid (∀ X : Since w1, ArgG 31 w n (.slice a l.length cap) l X.val) := fun X => HA.out _ (since_below hw1 (by simp) X)
  have hx0 : ∀ X : Since w1, X.val.cell? ⟨w.heap.size, 0, none⟩ = some (.int .i64 n) := fun X => (HX.out X).1
  have hx1 : ∀ X : Since w1, X.val.cell? ⟨w.heap.size, 1, none⟩ = some (.slice a l.length cap) := fun X => (HX.out X).2.1
  go_enter Try.func134, Try.ntmps134
  go_wp2
  rw [← hw1]
  clear hw1
  refine wp_region_since (by kernel_rfl) (by kernel_rfl) ?_
  by_cases hq : IsS n l x
  · have HC1 : Hid (∀ X : Since w1, Calls Try.prog 124 #[.agg #[.int .i64 n, .slice a l.length cap], .int .i64 x] X.val fun e w' => e = .returned (.bool true) ∧ Below X.val.heap.size X.val w') := fun X => (specIsSet n _ l x _ (HX.out X).2.2.1).mono fun _ _ h => h.is_yes hq
    have HQ := Lib.hid hq
    have HF := Lib.hid (rest_is hq)
    obtain ⟨Z, hZ⟩ : ∃ Z : Int, Z = aroundR n l x := ⟨_, rfl⟩
    obtain ⟨M, hM⟩ : ∃ M : Int, M = 2 ^ n.toNat - 1 := ⟨_, rfl⟩
    have HC2 : Hid (∀ X : Since w1, Calls Try.prog 161 #[.agg #[.int .i64 n, .slice a l.length cap], .int .i64 x] X.val fun e w' => e = .returned (.int .i64 Z) ∧ Below X.val.heap.size X.val w') := fun X => by rw [hZ]; exact specAround n _ l x _ (HX.out X).2.2.1
    obtain ⟨N, eN, hN1, hN2⟩ : ∃ N, (2 : Int) ^ n.toNat = N ∧ 1 ≤ N ∧ N ≤ 128 := ⟨_, rfl, HF.out.2.2.2, HF.out.2.2.1⟩
    have hn1 := hq.1.1
    have hn7 := hq.1.2.1
    have q8 : N - 1 = M := by rw [hM, eN]
    have q6 : IntKind.i64.wrap (1 * N) = N := IntWalk.i64_in _ (by omega) |>.trans (by omega)
    have q7 : IntKind.i64.wrap (N - 1) = M := (IntWalk.i64_in _ (by omega)).trans q8
    clear hq
    have HD := Lib.hid (show DomS n l x ↔ Z = M by rw [hZ, hM]; exact ⟨fun h => h.2, fun h => ⟨HQ.out, h⟩⟩)
    clear hZ hM
    by_cases hzm : Z = M
    · have d1 : (Z == M) = true := by rw [beq_iff_eq]; exact hzm
      have HY := Lib.hid (HD.out.2 hzm)
      clear hzm
      repeat (go_big_quiet_step (first | with_reducible exact since_call (HC1.out _) | with_reducible exact since_call (HC2.out _)))
      refine wpQuiet_nil ?_
      intro X
      have HW := Lib.hid (HX.out X).2.2.2.1
      clear hx0 hx1 q6 q7 q8 eN
      go_wp2
      go_ret
      exact SaysB.yes HY.out HW.out
    · have d1 : (Z == M) = false := by rw [beq_eq_false_iff_ne]; exact hzm
      have HY := Lib.hid (fun h => hzm (HD.out.1 h))
      clear hzm
      repeat (go_big_quiet_step (first | with_reducible exact since_call (HC1.out _) | with_reducible exact since_call (HC2.out _)))
      refine wpQuiet_nil ?_
      intro X
      have HW := Lib.hid (HX.out X).2.2.2.1
      clear hx0 hx1 q6 q7 q8 eN
      go_wp2
      go_ret
      exact SaysB.no HY.out HW.out
  · have HC1 : Hid (∀ X : Since w1, Calls Try.prog 124 #[.agg #[.int .i64 n, .slice a l.length cap], .int .i64 x] X.val fun e w' => e = .returned (.bool false) ∧ Below X.val.heap.size X.val w') := fun X => (specIsSet n _ l x _ (HX.out X).2.2.1).mono fun _ _ h => h.is_no hq
    have HQ := Lib.hid hq
    clear hq
    repeat (go_big_quiet_step (with_reducible exact since_call (HC1.out _)))
    refine wpQuiet_nil ?_
    intro X
    have HW := Lib.hid (HX.out X).2.2.2.1
    clear hx0 hx1
    go_wp2
    go_ret
    exact SaysB.no (fun h => HQ.out h.1) HW.out

set_option maxHeartbeats 2000000 in
set_option maxRecDepth 100000 in
theorem isPacked_is (n : Int) (v : Value) (l : List Int) (x : Int) (w : World) (h : Ints w v l) :
    Calls Try.prog 141 #[.agg #[.int .i64 n, v, .int .i64 x]] w (SaysB (PackS n l x) w) := by
  obtain ⟨a, cap, rfl, -, -⟩ := h.form
  have HI := Lib.hid h
  have HA := argC (n := n) (x := x) h
  clear h
  go_enter Try.func141, Try.ntmps141
  go_wp2_with fail
  refine (implIsSet n _ l x _ (HI.out.alloc _)).mono ?_
  rintro e w1 ⟨r, rfl, hr, hb⟩
  have HB := Lib.hid (hb.mono (B' := w.heap.size + 1) (by simp))
  have HR := Lib.hid hr
  clear hb hr
  obtain ⟨c0, c1, c2, cI, cB, hz⟩ := HA.out _ HB.out
  have HCB := Lib.hid cB
  clear cI cB
  cases r with
  | false =>
    go_wp2
    go_ret
    exact SaysB.no (fun h => absurd (HR.out.2 h.1) (by decide)) HCB.out
  | true =>
    have HQ := Lib.hid (HR.out.1 rfl)
    have HG := Lib.hid HQ.out.1
    have hn7 := HG.out.2.1
    have hle : (l.length : Int) ≤ n := by have := HG.out.2.2.1; omega
    have hge : n ≤ (l.length : Int) := by have := HG.out.2.2.1; omega
    obtain ⟨X, rfl⟩ := Int.eq_ofNat_of_zero_le HQ.out.2.1
    have HXS := Lib.hid (by have := HQ.out.nat.2.1; rwa [Int.toNat_natCast] at this : X < 2 ^ l.length)
    have hX7 : X < 128 := Nat.lt_of_lt_of_le HXS.out (two_le _ (by omega))
    go_wp2
    clear c0 c1 c2 hz
    go_loopw [3, 13] (fun y i wr => ∃ k : Nat, k ≤ l.length ∧ i = .int .i64 k ∧ Hid (∀ u, u < k → popU ((clsN l u &&& X : Nat) : Int) ≤ 1) ∧ Below (w.heap.size + 1) (w.alloc (.cells #[.int .i64 n, .slice a l.length cap, .int .i64 (X : Int)] 147)) wr) (fun _ i _ => l.length - (intOf i).toNat)
    case atStart => exact ⟨0, by omega, rfl, fun u hu => absurd hu (by omega), HB.out⟩
    case round =>
      obtain ⟨k, hk, rfl, HJ, hbel⟩ := hrel
      have HBL := Lib.hid hbel
      clear hbel
      obtain ⟨c0, c1, c2, cI, cB, hz⟩ := HA.out _ HBL.out
      have HCB2 := Lib.hid cB
      clear cI cB
      by_cases hlt : k < l.length
      · have hin : (k : Int) < n := by omega
        have HX := Lib.hid (fun Y : Since wr => HA.out _ (HBL.out.trans (Y.prop.mono hz)))
        have hx0 : ∀ Y : Since wr, Y.val.cell? ⟨w.heap.size, 0, none⟩ = some (.int .i64 n) := fun Y => (HX.out Y).1
        have hx1 : ∀ Y : Since wr, Y.val.cell? ⟨w.heap.size, 1, none⟩ = some (.slice a l.length cap) := fun Y => (HX.out Y).2.1
        have hx2 : ∀ Y : Since wr, Y.val.cell? ⟨w.heap.size, 2, none⟩ = some (.int .i64 (X : Int)) := fun Y => (HX.out Y).2.2.1
        obtain ⟨P, hP⟩ : ∃ P, P = 2 ^ k := ⟨_, rfl⟩
        have eP : (2 : Int) ^ k = (P : Int) := by rw [hP]; push_cast; rfl
        have hP7 : P < 128 := by rw [hP]; exact Nat.pow_lt_pow_right (n := 7) (by omega) (by omega)
        have g1 : IntKind.i64.wrap (1 * (P : Int)) = P := IntWalk.i64_in _ (by omega) |>.trans (by omega)
        have g2 : IntKind.i64.wrap (P : Int) = P := IntWalk.i64_in _ (by omega)
        obtain ⟨C, hC⟩ : ∃ C, C = clsN l k := ⟨_, rfl⟩
        have hC7 : C < 128 := by rw [hC]; exact cls_lt HG.out hlt
        obtain ⟨D, hD⟩ : ∃ D, D = (C &&& X) := ⟨_, rfl⟩
        have e1 : bits .and .i64 (C : Int) (X : Int) = (D : Int) := by rw [hD]; exact (bits_nat C X hC7 hX7).1
        obtain ⟨p, hp⟩ : ∃ p, p = popU (D : Int) := ⟨_, rfl⟩
        have HC1 : Hid (∀ Y : Since wr, Calls Try.prog 128 #[.agg #[.int .i64 n, .slice a l.length cap], .int .i64 P] Y.val fun e w' => e = .returned (.int .i64 C) ∧ Below Y.val.heap.size Y.val w') := fun Y => by
          have := implAround n _ l ((2 ^ k : Nat) : Int) _ (HX.out Y).2.2.2.1
          rw [around_one HG.out hlt] at this
          rw [hP, hC]
          exact this
        have HC2 : Hid (∀ Y : Since wr, Calls Try.prog 136 #[.int .i64 D] Y.val fun e w' => e = .returned (.int .i64 p) ∧ Below Y.val.heap.size Y.val w') := fun Y => by
          rw [hp]; exact (implCountSet (D : Int) _).mono fun _ _ h => ⟨h.1, eq_below h.2⟩
        have HP := Lib.hid (show popU ((clsN l k &&& X : Nat) : Int) = p by rw [hp, hD, hC])
        clear hP hC hD hp c0 c1 c2
        by_cases h1 : p ≤ 1
        · have d1 : decide (1 < p) = false := decide_eq_false (by omega)
          have HT : Hid (∀ u, u < k + 1 → popU ((clsN l u &&& X : Nat) : Int) ≤ 1) := fun u hu => by
            rcases Nat.lt_or_ge u k with h | h
            · exact HJ.out u h
            · obtain rfl : u = k := by omega
              rw [HP.out]; exact h1
          clear h1
          go_wp2
          refine wp_region_since (by kernel_rfl) (by kernel_rfl) ?_
          repeat (go_big_quiet_step (first | with_reducible exact since_call (HC1.out _) | with_reducible exact since_call (HC2.out _)))
          refine wpQuiet_nil ?_
          intro Y
          have HB3 := Lib.hid (HBL.out.trans (Y.prop.mono hz))
          clear hx0 hx1 hx2 e1 eP g1 g2
          go_wp2
          go_roundw
          case rel => exact ⟨k + 1, by omega, by go_num, HT.out, HB3.out⟩
          case measure => simp [intOf]; omega
        · have d1 : decide (1 < p) = true := decide_eq_true (by omega)
          have HN : Hid (¬ PackS n l (X : Int)) := fun h => h1 (by rw [← HP.out]; have := h.2 k hlt; rwa [Int.toNat_natCast] at this)
          clear h1
          go_wp2
          refine wp_region_since (by kernel_rfl) (by kernel_rfl) ?_
          repeat (go_big_quiet_step (first | with_reducible exact since_call (HC1.out _) | with_reducible exact since_call (HC2.out _)))
          refine wpQuiet_nil ?_
          intro Y
          have HW := Lib.hid (HX.out Y).2.2.2.2.1
          clear hx0 hx1 hx2 e1 eP g1 g2
          go_wp2
          go_ret
          exact SaysB.no HN.out HW.out
      · obtain rfl : k = l.length := by omega
        go_wp2
        go_ret
        exact SaysB.yes ⟨HQ.out, by rw [Int.toNat_natCast]; exact HJ.out⟩ HCB2.out

set_option maxHeartbeats 2000000 in
set_option maxRecDepth 100000 in
theorem specPack (n : Int) (v : Value) (l : List Int) (x : Int) (w : World) (h : Ints w v l) :
    Calls Try.prog 135 #[.agg #[.int .i64 n, v], .int .i64 x] w (SaysB (PackS n l x) w) := by
  obtain ⟨a, cap, rfl, -, -⟩ := h.form
  have HI := Lib.hid h
  have HA := argG' (T := 31) (n := n) h
  clear h
  by_cases hq : IsS n l x
  · have HQ := Lib.hid hq
    have HG := Lib.hid hq.1
    have hn7 := HG.out.2.1
    have hle : (l.length : Int) ≤ n := by have := HG.out.2.2.1; omega
    have hge : n ≤ (l.length : Int) := by have := HG.out.2.2.1; omega
    obtain ⟨X, rfl⟩ := Int.eq_ofNat_of_zero_le HQ.out.2.1
    have HXS := Lib.hid (by have := HQ.out.nat.2.1; rwa [Int.toNat_natCast] at this : X < 2 ^ l.length)
    have hX7 : X < 128 := Nat.lt_of_lt_of_le HXS.out (two_le _ (by omega))
    clear hq
    go_enter Try.func135, Try.ntmps135
    go_wp2
    go_loopw [5] (fun i wr => ∃ k : Nat, k ≤ l.length ∧ i = .int .i64 k ∧ Hid (∀ u, u < k → popU ((clsN l u &&& X : Nat) : Int) ≤ 1) ∧ Below (w.heap.size + 1) (w.alloc (.cells #[.int .i64 n, .slice a l.length cap] 31)) wr) (fun i _ => l.length - (intOf i).toNat)
    case atStart => exact ⟨0, by omega, rfl, fun u hu => absurd hu (by omega), Below.refl _ _⟩
    case round =>
      obtain ⟨k, hk, rfl, HJ, hbel⟩ := hrel
      have HBL := Lib.hid hbel
      clear hbel
      obtain ⟨c0, c1, cI, cB, hz⟩ := HA.out _ HBL.out
      have HCI := Lib.hid cI
      have HCB2 := Lib.hid cB
      clear cI cB
      by_cases hlt : k < l.length
      · have hin : (k : Int) < n := by omega
        have d0 : decide ((k : Int) < n) = true := decide_eq_true hin
        go_wp2_with fail
        refine (specIsSet n _ l X _ HCI.out).mono ?_
        rintro e w2 ⟨r, rfl, hr, hb⟩
        obtain rfl : r = true := hr.2 HQ.out
        have HBL2 := Lib.hid (HBL.out.trans (hb.mono hz))
        clear hb hr c0 c1 hz HCI
        have hz := (HA.out _ HBL2.out).2.2.2.2
        obtain ⟨b2, off2, cap2', hv, hc2, hmx2, hbk2, hcell2⟩ := HI.out.pos (by omega)
        simp only [Value.slice.injEq] at hv
        obtain ⟨rfl, -, rfl⟩ := hv
        have HC2' := Lib.hid hcell2
        have HX : Hid (∀ Y : Since w2, ArgG 31 w n (.slice (some ⟨b2, off2, none⟩) l.length cap) l Y.val) := fun Y => HA.out _ (HBL2.out.trans (Y.prop.mono hz))
        have hx0 : ∀ Y : Since w2, Y.val.cell? ⟨w.heap.size, 0, none⟩ = some (.int .i64 n) := fun Y => (HX.out Y).1
        have hx1 : ∀ Y : Since w2, Y.val.cell? ⟨w.heap.size, 1, none⟩ = some (.slice (some ⟨b2, off2, none⟩) l.length cap) := fun Y => (HX.out Y).2.1
        obtain ⟨R, hR⟩ : ∃ R, R = rowN l k := ⟨_, rfl⟩
        have hx2 : ∀ Y : Since w2, Y.val.cell? ⟨b2, off2 + k, none⟩ = some (.int .i64 (R : Int)) := fun Y => by
          rw [hR, ← (HG.out.row_lt k hlt).2]; exact ((HX.out Y).2.2.2.1.cell (p := ⟨b2, off2 + k, none⟩) hbk2).trans (HC2'.out k hlt)
        have hR7 : R < 128 := by rw [hR]; exact Nat.lt_of_lt_of_le (HG.out.row_lt k hlt).1 (two_le _ (by omega))
        obtain ⟨P, hP⟩ : ∃ P, P = 2 ^ k := ⟨_, rfl⟩
        have eP : (2 : Int) ^ k = (P : Int) := by rw [hP]; push_cast; rfl
        have hP7 : P < 128 := by rw [hP]; exact Nat.pow_lt_pow_right (n := 7) (by omega) (by omega)
        have g1 : IntKind.i64.wrap (1 * (P : Int)) = P := IntWalk.i64_in _ (by omega) |>.trans (by omega)
        have g2 : IntKind.i64.wrap (P : Int) = P := IntWalk.i64_in _ (by omega)
        obtain ⟨C, hC⟩ : ∃ C, C = clsN l k := ⟨_, rfl⟩
        have hC7 : C < 128 := by rw [hC]; exact cls_lt HG.out hlt
        have e0 : bits .or .i64 (R : Int) (P : Int) = (C : Int) := by rw [hC, (bits_nat R P hR7 hP7).2, hR, hP]; rfl
        obtain ⟨D, hD⟩ : ∃ D, D = (C &&& X) := ⟨_, rfl⟩
        have e1 : bits .and .i64 (C : Int) (X : Int) = (D : Int) := by rw [hD]; exact (bits_nat C X hC7 hX7).1
        obtain ⟨p, hp⟩ : ∃ p, p = popU (D : Int) := ⟨_, rfl⟩
        have HC2 : Hid (∀ Y : Since w2, Calls Try.prog 133 #[.int .i64 D] Y.val fun e w' => e = .returned (.int .i64 p) ∧ Below Y.val.heap.size Y.val w') := fun Y => by
          rw [hp]; exact specCountSet (D : Int) _
        have HP := Lib.hid (show popU ((clsN l k &&& X : Nat) : Int) = p by rw [hp, hD, hC])
        unfold maxLen at hmx2
        clear hP hC hD hp hcell2 hR
        by_cases h1 : p ≤ 1
        · have d1 : decide (1 < p) = false := decide_eq_false (by omega)
          have HT : Hid (∀ u, u < k + 1 → popU ((clsN l u &&& X : Nat) : Int) ≤ 1) := fun u hu => by
            rcases Nat.lt_or_ge u k with h | h
            · exact HJ.out u h
            · obtain rfl : u = k := by omega
              rw [HP.out]; exact h1
          clear h1
          go_wp2
          refine wp_region_since (by kernel_rfl) (by kernel_rfl) ?_
          repeat (go_big_quiet_step (with_reducible exact since_call (HC2.out _)))
          refine wpQuiet_nil ?_
          intro Y
          have HB3 := Lib.hid (HBL2.out.trans (Y.prop.mono hz))
          clear hx0 hx1 hx2 e0 e1 eP g1 g2
          go_wp2
          go_roundw
          case rel => exact ⟨k + 1, by omega, by go_num, HT.out, HB3.out⟩
          case measure => simp [intOf]; omega
        · have d1 : decide (1 < p) = true := decide_eq_true (by omega)
          have HN : Hid (¬ PackS n l (X : Int)) := fun h => h1 (by rw [← HP.out]; have := h.2 k hlt; rwa [Int.toNat_natCast] at this)
          clear h1
          go_wp2
          refine wp_region_since (by kernel_rfl) (by kernel_rfl) ?_
          repeat (go_big_quiet_step (with_reducible exact since_call (HC2.out _)))
          refine wpQuiet_nil ?_
          intro Y
          have HW := Lib.hid (HX.out Y).2.2.2.1
          clear hx0 hx1 hx2 e0 e1 eP g1 g2
          go_wp2
          go_ret
          exact SaysB.no HN.out HW.out
      · obtain rfl : k = l.length := by omega
        have d0 : decide ((l.length : Int) < n) = false := decide_eq_false (by omega)
        go_wp2_with fail
        refine (specIsSet n _ l X _ HCI.out).mono ?_
        rintro e w2 ⟨r, rfl, hr, hb⟩
        obtain rfl : r = true := hr.2 HQ.out
        have HCB3 := Lib.hid (HCB2.out.trans (hb.mono HCB2.out.size))
        clear hb hr
        go_wp2
        go_ret
        exact SaysB.yes ⟨HQ.out, by rw [Int.toNat_natCast]; exact HJ.out⟩ HCB3.out
  · have HQ := Lib.hid hq
    clear hq
    go_enter Try.func135, Try.ntmps135
    go_wp2
    go_loopw [5] (fun i wr => i = .int .i64 0 ∧ Below (w.heap.size + 1) (w.alloc (.cells #[.int .i64 n, .slice a l.length cap] 31)) wr) (fun _ _ => 0)
    case atStart => exact ⟨rfl, Below.refl _ _⟩
    case round =>
      obtain ⟨rfl, hbel⟩ := hrel
      have HBL := Lib.hid hbel
      clear hbel
      obtain ⟨c0, c1, cI, cB, hz⟩ := HA.out _ HBL.out
      have HCI := Lib.hid cI
      have HCB2 := Lib.hid cB
      clear cI cB
      by_cases h0 : 0 < n
      · have d0 : decide (0 < n) = true := decide_eq_true h0
        clear h0
        go_wp2_with fail
        refine (specIsSet n _ l x _ HCI.out).mono ?_
        rintro e w2 ⟨r, rfl, hr, hb⟩
        obtain rfl : r = false := by
          cases r with
          | false => rfl
          | true => exact absurd (hr.1 rfl) HQ.out
        have HBL2 := Lib.hid (HBL.out.trans (hb.mono hz))
        clear hb hr c0 c1 hz HCI HCB2
        obtain ⟨c0, c1, cI, cB, hz⟩ := HA.out _ HBL2.out
        have HCI := Lib.hid cI
        have HCB2 := Lib.hid cB
        clear cI cB
        go_wp2_with fail
        refine (specIsSet n _ l x _ HCI.out).mono ?_
        rintro e w3 ⟨r, rfl, hr, hb⟩
        obtain rfl : r = false := by
          cases r with
          | false => rfl
          | true => exact absurd (hr.1 rfl) HQ.out
        have HCB3 := Lib.hid (HCB2.out.trans (hb.mono HCB2.out.size))
        clear hb hr
        go_wp2
        go_ret
        exact SaysB.no (fun h => HQ.out h.1) HCB3.out
      · have d0 : decide (0 < n) = false := decide_eq_false h0
        clear h0
        go_wp2_with fail
        refine (specIsSet n _ l x _ HCI.out).mono ?_
        rintro e w3 ⟨r, rfl, hr, hb⟩
        obtain rfl : r = false := by
          cases r with
          | false => rfl
          | true => exact absurd (hr.1 rfl) HQ.out
        have HCB3 := Lib.hid (HCB2.out.trans (hb.mono HCB2.out.size))
        clear hb hr
        go_wp2
        go_ret
        exact SaysB.no (fun h => HQ.out h.1) HCB3.out

end Go.Proofs.Ytpifgmmmmhenmaa
