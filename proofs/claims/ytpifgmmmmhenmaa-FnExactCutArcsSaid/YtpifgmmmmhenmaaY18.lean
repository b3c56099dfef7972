/- Arcs of a circle: the specification's ArcsAt and FreePoint; impl.hasPoint, impl.FreePoint. -/
import Derived.Test.YtpifgmmmmhenmaaY2
namespace Go.Proofs.Ytpifgmmmmhenmaa
set_option linter.unusedVariables false
set_option linter.unusedSimpArgs false
open Go.RowKit

/-- Arc i holds the point x. -/
def ArcOn (n : Int) (l m : List Int) (i : Nat) (x : Int) : Prop := (x - nth l i + n) % n < nth m i

instance (n : Int) (l m : List Int) (i : Nat) (x : Int) : Decidable (ArcOn n l m i x) := by unfold ArcOn; exact inferInstance

/-- Which arcs hold a point. -/
def arcN (n : Int) (l m : List Int) (x : Int) : Nat → Nat
  | 0 => 0
  | j + 1 => arcN n l m x j + (if ArcOn n l m j x then 2 ^ j else 0)

theorem arcN_lt (n : Int) (l m : List Int) (x : Int) (j : Nat) : arcN n l m x j < 2 ^ j := by
  induction j with
  | zero => simp [arcN]
  | succ j ih =>
    rw [arcN, Nat.pow_succ]
    split <;> omega

/-- A circle's point. -/
def PtP (n : Int) (l m : List Int) (x : Int) : Prop := ArcsP n l m ∧ 0 ≤ x ∧ x < n

instance (n : Int) (l m : List Int) (x : Int) : Decidable (PtP n l m x) := by unfold PtP; exact inferInstance

def arcR (n : Int) (l m : List Int) (x : Int) : Int := if PtP n l m x then ((arcN n l m x l.length : Nat) : Int) else 0

theorem or_freshA : ∀ (j : Fin 7) (c : Fin 128), c.val < 2 ^ j.val → bits .or .i64 ((c.val : Nat) : Int) ((2 ^ j.val : Nat) : Int) = ((c.val + 2 ^ j.val : Nat) : Int) := by decide +kernel

set_option maxHeartbeats 2000000 in
set_option maxRecDepth 100000 in
theorem specOn (n : Int) (v u : Value) (l m : List Int) (j : Nat) (t : Int) (w : World) (h : Ints w v l) (g : Ints w u m) (HP : Hid (PtP n l m t)) (hj : j < l.length) :
    Calls Try.prog 142 #[.agg #[.int .i64 n, v, u], .int .i64 j, .int .i64 t] w (SaysB (ArcOn n l m j t) w) := by
  obtain ⟨ad, cap, rfl, -, -⟩ := h.form
  obtain ⟨bd, cap', rfl, -, -⟩ := g.form
  have F0 := Lib.hid (show Below w.heap.size w (w.alloc (.cells #[.int .i64 n, .slice ad l.length cap, .slice bd m.length cap'] 55)) from (Below.refl _ w).alloc (Nat.le_refl _) _)
  have A0 := Lib.hid (show Box w.heap.size [.int .i64 n, .slice ad l.length cap, .slice bd m.length cap'] (w.alloc (.cells #[.int .i64 n, .slice ad l.length cap, .slice bd m.length cap'] 55)) from Box.new w _ _)
  have hjm : j < m.length := by have := HP.out.1.2.2.1; omega
  obtain ⟨b, off, cap1, hv, _, _, hb, hcell⟩ := (h.on F0.out).pos (by omega)
  simp only [Value.slice.injEq] at hv
  obtain ⟨rfl, -, rfl⟩ := hv
  obtain ⟨b', off', cap1', hv, _, _, hb', hcell'⟩ := (g.on F0.out).pos (by omega)
  simp only [Value.slice.injEq] at hv
  obtain ⟨rfl, -, rfl⟩ := hv
  obtain ⟨x, hx⟩ : ∃ x, x = nth l j := ⟨_, rfl⟩
  obtain ⟨y, hy⟩ : ∃ y, y = nth m j := ⟨_, rfl⟩
  have c1 := hcell j hj
  have c2 := hcell' j hjm
  rw [← hx] at c1
  rw [← hy] at c2
  have HPN : Hid (ArcOn n l m j t ↔ (t - x + n) % n < y) := by rw [hx, hy]; exact Iff.rfl
  have hxy := HP.out.1.2.2.2 j hj
  rw [← hx, ← hy] at hxy
  have ht0 := HP.out.2.1
  have ht1 := HP.out.2.2
  have hn3 := HP.out.1.1.1
  have hn30 := HP.out.1.1.2
  have x0 : (w.alloc (.cells #[.int .i64 n, .slice (some ⟨b, off, none⟩) l.length cap, .slice (some ⟨b', off', none⟩) m.length cap'] 55)).cell? ⟨w.heap.size, 0, none⟩ = some (.int .i64 n) := A0.out.1 0 _ rfl
  have x1 : (w.alloc (.cells #[.int .i64 n, .slice (some ⟨b, off, none⟩) l.length cap, .slice (some ⟨b', off', none⟩) m.length cap'] 55)).cell? ⟨w.heap.size, 1, none⟩ = some (.slice (some ⟨b, off, none⟩) l.length cap) := A0.out.1 1 _ rfl
  have x2 : (w.alloc (.cells #[.int .i64 n, .slice (some ⟨b, off, none⟩) l.length cap, .slice (some ⟨b', off', none⟩) m.length cap'] 55)).cell? ⟨w.heap.size, 2, none⟩ = some (.slice (some ⟨b', off', none⟩) m.length cap') := A0.out.1 2 _ rfl
  obtain ⟨P1, hP1⟩ : ∃ z : Int, z = t - x := ⟨_, rfl⟩
  have e1 : IntKind.i64.wrap (t - x) = P1 := (IntWalk.i64_in _ (by omega)).trans hP1.symm
  obtain ⟨P2, hP2⟩ : ∃ z : Int, z = P1 + n := ⟨_, rfl⟩
  have e2 : IntKind.i64.wrap (P1 + n) = P2 := (IntWalk.i64_in _ (by omega)).trans hP2.symm
  obtain ⟨M, hM⟩ : ∃ z : Int, z = P2 % n := ⟨_, rfl⟩
  have hM0 : 0 ≤ M := by rw [hM]; exact Int.emod_nonneg _ (by omega)
  have hM1 : M < n := by rw [hM]; exact Int.emod_lt_of_pos _ (by omega)
  have m1 : Int.tmod P2 n = M := by rw [Int.tmod_eq_emod_of_nonneg (by omega)]; exact hM.symm
  have e3 : IntKind.i64.wrap M = M := IntWalk.i64_in _ (by omega)
  have z0 : (n == 0) = false := by rw [beq_eq_false_iff_ne]; omega
  have hn0 : n ≠ 0 := by omega
  have hn0' : ¬ n = 0 := by omega
  have m1' : P2 % n = M := hM.symm
  have HPM : Hid (ArcOn n l m j t ↔ M < y) := by rw [HPN.out, hM, hP2, hP1]; exact Iff.rfl
  have HIN := Lib.hid hcell
  clear hcell hcell' HPN hM hP1 hP2 hx hy h g
  by_cases hlt : M < y
  · have d0 : decide (M < y) = true := by simp [hlt]
    have HQ : Hid (ArcOn n l m j t) := HPM.out.2 hlt
    clear hlt HPM hxy ht0 ht1 hn3 hn30 hM0 hM1
    go_enter Try.func142, Try.ntmps142
    go_wp2
    go_quiet (fail)
    go_wp2
    go_ret
    exact SaysB.yes HQ.out (below_drewN F0.out _)
  · have d0 : decide (M < y) = false := by simp; omega
    have HQ : Hid (¬ ArcOn n l m j t) := fun h => hlt (HPM.out.1 h)
    clear hlt HPM hxy ht0 ht1 hn3 hn30 hM0 hM1
    go_enter Try.func142, Try.ntmps142
    go_wp2
    go_quiet (fail)
    go_wp2
    go_ret
    exact SaysB.no HQ.out (below_drewN F0.out _)

set_option maxHeartbeats 2000000 in
set_option maxRecDepth 100000 in
theorem specArcsAt (n : Int) (v u : Value) (l m : List Int) (t : Int) (w : World) (h : Ints w v l) (g : Ints w u m) (hl : l.length ≤ 1048576) (hm : m.length ≤ 1048576) :
    Calls Try.prog 97 #[.agg #[.int .i64 n, v, u], .int .i64 t] w fun e w' => e = .returned (.int .i64 (arcR n l m t)) ∧ Below w.heap.size w w' := by
  obtain ⟨ad, cap, rfl, -, -⟩ := h.form
  obtain ⟨bd, cap', rfl, -, -⟩ := g.form
  have HI := Lib.hid h
  have HJ := Lib.hid g
  clear h g
  have F0 := Lib.hid (show Below w.heap.size w (w.alloc (.cells #[.int .i64 n, .slice ad l.length cap, .slice bd m.length cap'] 55)) from (Below.refl _ w).alloc (Nat.le_refl _) _)
  have A0 := Lib.hid (show Box w.heap.size [.int .i64 n, .slice ad l.length cap, .slice bd m.length cap'] (w.alloc (.cells #[.int .i64 n, .slice ad l.length cap, .slice bd m.length cap'] 55)) from Box.new w _ _)
  have HG := Lib.hid (show ¬ PtP n l m t → arcR n l m t = 0 from fun h => by unfold arcR; rw [if_neg h])
  have HE := Lib.hid (show PtP n l m t → arcR n l m t = ((arcN n l m t l.length : Nat) : Int) from fun h => by unfold arcR; rw [if_pos h])
  obtain ⟨R, hR⟩ : ∃ R, R = arcR n l m t := ⟨_, rfl⟩
  rw [← hR] at HG HE ⊢
  clear hR
  obtain ⟨N, hN⟩ : ∃ N, N = IntKind.i64.wrap (n - 1) := ⟨_, rfl⟩
  have HN0 : Hid (3 ≤ n → n ≤ 30 → N = n - 1) := fun a b => by rw [hN, IntKind.wrap_i64]; omega
  have hN1 : IntKind.i64.wrap (n - 1) = N := hN.symm
  clear hN
  go_enter Try.func97, Try.ntmps97
  go_wp2
  go_loopw [5, 6] (fun c i wr => ∃ (j C : Nat), j ≤ l.length ∧ c = .int .i64 C ∧ i = .int .i64 j ∧ Below (w.alloc (.cells #[.int .i64 n, .slice ad l.length cap, .slice bd m.length cap'] 55)).heap.size (w.alloc (.cells #[.int .i64 n, .slice ad l.length cap, .slice bd m.length cap'] 55)) wr ∧ Hid (C = arcN n l m t j) ∧ Hid (0 < j → PtP n l m t)) (fun _ i _ => l.length - (intOf i).toNat)
  case atStart => exact ⟨0, 0, by omega, rfl, rfl, Below.refl _ _, rfl, fun h => absurd h (by omega)⟩
  case round =>
    obtain ⟨j, C, hj, rfl, rfl, hbel, HC, HPOS⟩ := hrel
    have HB0 := Lib.hid (F0.out.trans (hbel.mono F0.out.size))
    have HBL := Lib.hid hbel
    have x0 : wr.cell? ⟨w.heap.size, 0, none⟩ = some (.int .i64 n) := (A0.out.on HBL.out).1 0 _ rfl
    have x1 : wr.cell? ⟨w.heap.size, 1, none⟩ = some (.slice ad l.length cap) := (A0.out.on HBL.out).1 1 _ rfl
    have x2 : wr.cell? ⟨w.heap.size, 2, none⟩ = some (.slice bd m.length cap') := (A0.out.on HBL.out).1 2 _ rfl
    by_cases hlt : j < l.length
    · clear hbel
      go_wp2_with fail
      refine (specIsArcs n _ _ l m _ (HI.out.on HB0.out) (HJ.out.on HB0.out) hl hm).mono ?_
      rintro e w3 ⟨r, rfl, hr, hb3⟩
      have HRR := Lib.hid hr
      have HB3 := Lib.hid (HBL.out.trans (hb3.mono HBL.out.size))
      have HW3 := Lib.hid (F0.out.trans (HB3.out.mono F0.out.size))
      clear hr hb3 x0 x1 x2
      have x0 : w3.cell? ⟨w.heap.size, 0, none⟩ = some (.int .i64 n) := (A0.out.on HB3.out).1 0 _ rfl
      have x1 : w3.cell? ⟨w.heap.size, 1, none⟩ = some (.slice ad l.length cap) := (A0.out.on HB3.out).1 1 _ rfl
      have x2 : w3.cell? ⟨w.heap.size, 2, none⟩ = some (.slice bd m.length cap') := (A0.out.on HB3.out).1 2 _ rfl
      cases r with
      | false =>
        have hno : ¬ PtP n l m t := fun h => absurd (HRR.out.2 h.1) (by decide)
        obtain rfl : j = 0 := by
          rcases Nat.eq_zero_or_pos j with h | h
          · exact h
          · exact absurd (HPOS.out h) hno
        have HN := Lib.hid (show R = 0 from HG.out hno)
        obtain rfl : C = 0 := HC.out
        clear hno
        go_wp2
        go_ret
        exact ⟨by rw [HN.out] <;> rfl, HW3.out⟩
      | true =>
        have HV := Lib.hid (HRR.out.1 (by first | rfl | trivial))
        by_cases hin : 0 ≤ t ∧ t ≤ N
        · have HP : Hid (PtP n l m t) := ⟨HV.out, hin.1, by have := HN0.out HV.out.1.1 HV.out.1.2; omega⟩
          have q1 := hin.1
          have q2 := hin.2
          have h7 : l.length ≤ 7 := HV.out.2.1.2
          clear hin
          go_wp2_with fail
          refine (l1In_yes' _ _ _ _ q1 q2).mono ?_
          rintro e w4 ⟨rfl, rfl⟩
          clear q1 q2
          go_wp2_with fail
          refine (specOn n _ _ l m j t _ (HI.out.on HW3.out) (HJ.out.on HW3.out) HP hlt).mono ?_
          rintro e w5 ⟨r, rfl, hr, hb5⟩
          have HR5 := Lib.hid hr
          have HB5 := Lib.hid (HB3.out.trans (hb5.mono HB3.out.size))
          clear hr hb5 x0 x1 x2
          obtain ⟨P, hP⟩ : ∃ P, P = 2 ^ j := ⟨_, rfl⟩
          have p1 : (2 : Int) ^ j = (P : Int) := by rw [hP]; push_cast; rfl
          have hP1 : 1 ≤ P := by rw [hP]; exact Nat.pow_pos (by decide)
          have hP7 : P ≤ 64 := by rw [hP]; have := Nat.pow_le_pow_right (n := 2) (by decide) (show j ≤ 6 by omega); simpa using this
          have q1 : IntKind.i64.wrap (1 * (P : Int)) = P := IntWalk.i64_in _ (by omega) |>.trans (by omega)
          have hCl : C < P := by rw [HC.out, hP]; exact arcN_lt _ _ _ _ _
          have q2 : IntKind.i64.wrap ((C : Int) + (P : Int)) = ((C + P : Nat) : Int) := IntWalk.i64_in _ (by omega) |>.trans (by omega)
          have HPP := Lib.hid hP
          clear hP
          cases r with
          | false =>
            have HN := Lib.hid (show C = arcN n l m t (j + 1) by
              rw [arcN, if_neg (fun h => absurd (HR5.out.2 h) (by decide))]; exact HC.out)
            go_wp2
            go_roundw
            case rel => exact ⟨j + 1, C, by omega, rfl, by go_num, HB5.out, HN.out, fun _ => HP.out⟩
            case measure => simp [intOf]; omega
          | true =>
            have HN := Lib.hid (show C + P = arcN n l m t (j + 1) by
              rw [arcN, if_pos (HR5.out.1 (by first | rfl | trivial)), ← HC.out, ← HPP.out])
            go_wp2
            go_roundw
            case rel => exact ⟨j + 1, C + P, by omega, rfl, by go_num, HB5.out, HN.out, fun _ => HP.out⟩
            case measure => simp [intOf]; omega
        · have hno : ¬ PtP n l m t := fun h => hin ⟨h.2.1, by have := HN0.out HV.out.1.1 HV.out.1.2; have := h.2.2; omega⟩
          obtain rfl : j = 0 := by
            rcases Nat.eq_zero_or_pos j with h | h
            · exact h
            · exact absurd (HPOS.out h) hno
          have HN := Lib.hid (show R = 0 from HG.out hno)
          obtain rfl : C = 0 := HC.out
          have HIN := Lib.hid hin
          clear hno hin
          go_wp2_with fail
          refine (l1In_no' _ _ _ _ HIN.out).mono ?_
          rintro e w4 ⟨rfl, rfl⟩
          go_wp2
          go_ret
          exact ⟨by rw [HN.out] <;> rfl, HW3.out⟩
    · obtain rfl : j = l.length := by omega
      have HN := Lib.hid (show R = (C : Int) by
        rcases Nat.eq_zero_or_pos l.length with h | h
        · rw [HG.out (fun h' => by have := h'.1.2.1.1; omega), HC.out, h]; rfl
        · rw [HE.out (HPOS.out h), HC.out])
      go_wp2
      go_ret
      exact ⟨by rw [HN.out] <;> rfl, HB0.out⟩

end Go.Proofs.Ytpifgmmmmhenmaa
