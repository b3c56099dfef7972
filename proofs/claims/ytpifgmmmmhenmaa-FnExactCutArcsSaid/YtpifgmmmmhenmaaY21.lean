/- Arcs of a circle: hasPoint, ArcsAt, FreePoint. -/
import Derived.Test.YtpifgmmmmhenmaaY20
namespace Go.Proofs.Ytpifgmmmmhenmaa
set_option linter.unusedVariables false
set_option linter.unusedSimpArgs false
open Go.RowKit

theorem mod_hi {a n : Int} (h0 : n ≤ a) (h1 : a < n + n) : a % n = a - n := by
  have := Int.add_mul_emod_self_left (a - n) n 1
  rw [Int.mul_one, Int.sub_add_cancel] at this
  rw [this]
  exact Int.emod_eq_of_lt (by omega) (by omega)

theorem on_iff {n f : Int} {k x : Nat} (h0 : 0 ≤ f) (h1 : f < n) (hx : (x : Int) < n) (hk : (k : Int) < n) : onB n f k x = decide (((x : Int) - f + n) % n < (k : Int)) := by
  unfold onB
  congr 1
  apply propext
  rcases Int.lt_or_le (x : Int) f with hf | hf
  · rw [Int.emod_eq_of_lt (a := (x : Int) - f + n) (by omega) (by omega)]
    constructor
    · rintro ⟨i, hi, h⟩
      rcases Int.lt_or_le (f + (i : Int)) n with h2 | h2
      · rw [Int.emod_eq_of_lt (by omega) h2] at h; omega
      · rw [mod_hi h2 (by omega)] at h; omega
    · intro h
      refine ⟨((x : Int) - f + n).toNat, by omega, ?_⟩
      rw [mod_hi (by omega) (by omega)]; omega
  · rw [mod_hi (a := (x : Int) - f + n) (by omega) (by omega)]
    constructor
    · rintro ⟨i, hi, h⟩
      rcases Int.lt_or_le (f + (i : Int)) n with h2 | h2
      · rw [Int.emod_eq_of_lt (by omega) h2] at h; omega
      · rw [mod_hi h2 (by omega)] at h; omega
    · intro h
      refine ⟨((x : Int) - f).toNat, by omega, ?_⟩
      rw [Int.emod_eq_of_lt (by omega) (by omega)]; omega

theorem on_arc {n : Int} {l m : List Int} {t : Int} {j : Nat} (hP : PtP n l m t) (hj : j < l.length) : onB n (nth l j) (nth m j).toNat t.toNat = decide (ArcOn n l m j t) := by
  have h := hP.1.2.2.2 j hj
  have h1 := hP.2
  rw [on_iff h.1 h.2.1 (by omega) (by omega)]
  unfold ArcOn
  congr 1
  rw [show ((t.toNat : Nat) : Int) = t by omega, show (((nth m j).toNat : Nat) : Int) = nth m j by omega]

theorem index_row (n f : Int) (k : Nat) (t : Int) (h0 : 0 ≤ t) (h1 : t < 30) (w : World) : (Instr.index 150 (.agg (onRow n f k).toArray) (.int .i64 t)).run Try.prog w = .ok (.bool (onB n f k t.toNat)) w := by
  have hu : Try.prog.underlying 150 = some (.array 30 4) := by kernel_rfl
  have hn : 0 ≤ t ∧ t < ((30 : Nat) : Int) := by omega
  have hg := onRow_get n f k (p := t.toNat) (by omega)
  simp [Instr.index, run_underlying hu, asIntOf, hn, go_sem, hg, h0, h1]

set_option maxHeartbeats 2000000 in
set_option maxRecDepth 100000 in
theorem hasPoint_is (n : Int) (v u : Value) (l m : List Int) (t : Int) (w : World) (h : Ints w v l) (g : Ints w u m) (hl : l.length ≤ 1048576) (hm : m.length ≤ 1048576) :
    Calls Try.prog 98 #[.agg #[.int .i64 n, v, u], .int .i64 t] w (SaysB (PtP n l m t) w) := by
  obtain ⟨ad, cap, rfl, -, -⟩ := h.form
  obtain ⟨bd, cap', rfl, -, -⟩ := g.form
  have HI := Lib.hid h
  have HJ := Lib.hid g
  clear h g
  have F0 := Lib.hid (show Below w.heap.size w (w.alloc (.cells #[.int .i64 n, .slice ad l.length cap, .slice bd m.length cap'] 55)) from (Below.refl _ w).alloc (Nat.le_refl _) _)
  have A0 := Lib.hid (show Box w.heap.size [.int .i64 n, .slice ad l.length cap, .slice bd m.length cap'] (w.alloc (.cells #[.int .i64 n, .slice ad l.length cap, .slice bd m.length cap'] 55)) from Box.new w _ _)
  go_enter Try.func98, Try.ntmps98
  go_wp2_with fail
  refine (implIsArcs n _ _ l m _ (HI.out.on F0.out) (HJ.out.on F0.out) hl hm).mono ?_
  rintro e w1 ⟨r, rfl, hr, hb⟩
  have HR := Lib.hid hr
  have HB := Lib.hid (F0.out.trans (hb.mono F0.out.size))
  have x0 : w1.cell? ⟨w.heap.size, 0, none⟩ = some (.int .i64 n) := (A0.out.on hb).1 0 _ rfl
  clear hr hb
  cases r with
  | false =>
    have HN : Hid (¬ PtP n l m t) := fun h => absurd (HR.out.2 h.1) (by decide)
    go_wp2
    go_ret
    exact SaysB.no HN.out HB.out
  | true =>
    have HV := Lib.hid (HR.out.1 (by first | rfl | trivial))
    by_cases h0 : 0 ≤ t
    · have d0 : decide (0 ≤ t) = true := decide_eq_true h0
      by_cases h1 : t < n
      · have d1 : decide (t < n) = true := decide_eq_true h1
        have HY : Hid (PtP n l m t) := ⟨HV.out, h0, h1⟩
        clear h0 h1
        go_wp2
        go_ret
        exact SaysB.yes HY.out HB.out
      · have d1 : decide (t < n) = false := decide_eq_false h1
        have HN : Hid (¬ PtP n l m t) := fun h => h1 h.2.2
        clear h0 h1
        go_wp2
        go_ret
        exact SaysB.no HN.out HB.out
    · have d0 : decide (0 ≤ t) = false := decide_eq_false h0
      have HN : Hid (¬ PtP n l m t) := fun h => h0 h.2.1
      clear h0
      go_wp2
      go_ret
      exact SaysB.no HN.out HB.out

set_option maxHeartbeats 2000000 in
set_option maxRecDepth 100000 in
theorem implArcsAt (n : Int) (v u : Value) (l m : List Int) (t : Int) (w : World) (h : Ints w v l) (g : Ints w u m) (hl : l.length ≤ 1048576) (hm : m.length ≤ 1048576) :
    Calls Try.prog 99 #[.agg #[.int .i64 n, v, u], .int .i64 t] w fun e w' => e = .returned (.int .i64 (arcR n l m t)) ∧ Below w.heap.size w w' := by
  obtain ⟨ad, cap, rfl, -, -⟩ := h.form
  obtain ⟨bd, cap', rfl, -, -⟩ := g.form
  have HI := Lib.hid h
  have HJ := Lib.hid g
  clear h g
  have F0 := Lib.hid (show Below w.heap.size w (w.alloc (.cells #[.int .i64 n, .slice ad l.length cap, .slice bd m.length cap'] 55)) from (Below.refl _ w).alloc (Nat.le_refl _) _)
  have A0 := Lib.hid (show Box w.heap.size [.int .i64 n, .slice ad l.length cap, .slice bd m.length cap'] (w.alloc (.cells #[.int .i64 n, .slice ad l.length cap, .slice bd m.length cap'] 55)) from Box.new w _ _)
  have HG := Lib.hid (show ¬ PtP n l m t → arcR n l m t = 0 from fun h => by unfold arcR; rw [if_neg h])
  have HE := Lib.hid (show PtP n l m t → arcR n l m t = ((arcN n l m t l.length : Nat) : Int) from fun h => by unfold arcR; rw [if_pos h])
  obtain ⟨R, hR⟩ : ∃ R, R = arcR n l m t := ⟨_, rfl⟩
  rw [← hR] at HG HE ⊢
  clear hR
  go_enter Try.func99, Try.ntmps99
  go_wp2_with fail
  refine (hasPoint_is n _ _ l m t _ (HI.out.on F0.out) (HJ.out.on F0.out) hl hm).mono ?_
  rintro e w1 ⟨r, rfl, hr, hb⟩
  have HR := Lib.hid hr
  have HB := Lib.hid hb
  have HW1 := Lib.hid (F0.out.trans (hb.mono F0.out.size))
  have A1 := Lib.hid (A0.out.on hb)
  have x0 : w1.cell? ⟨w.heap.size, 0, none⟩ = some (.int .i64 n) := (A0.out.on hb).1 0 _ rfl
  have x1 : w1.cell? ⟨w.heap.size, 1, none⟩ = some (.slice ad l.length cap) := (A0.out.on hb).1 1 _ rfl
  have hz : w.heap.size < w1.heap.size := by have := hb.size; simp at this; omega
  clear hr hb
  cases r with
  | false =>
    have HN := Lib.hid (show R = 0 from HG.out (fun h => absurd (HR.out.2 h) (by decide)))
    go_wp2
    go_ret
    exact ⟨by rw [HN.out] <;> rfl, HW1.out⟩
  | true =>
    have HP := Lib.hid (HR.out.1 (by first | rfl | trivial))
    have h7 : l.length ≤ 7 := HP.out.1.2.1.2
    have ht0 := HP.out.2.1
    have ht30 : t < 30 := by have := HP.out.2.2; have := HP.out.1.1.2; omega
    go_wp2
    go_loopw [5, 14] (fun c i wr => ∃ (j C : Nat), j ≤ l.length ∧ c = .int .i64 C ∧ i = .int .i64 j ∧ Below w1.heap.size w1 wr ∧ Hid (C = arcN n l m t j)) (fun _ i _ => l.length - (intOf i).toNat)
    case atStart => exact ⟨0, 0, by omega, rfl, rfl, Below.refl _ _, rfl⟩
    case round =>
      obtain ⟨j, C, hj, rfl, rfl, hbel, HC⟩ := hrel
      have HB0 := Lib.hid (HW1.out.trans (hbel.mono (by omega)))
      have HBL := Lib.hid hbel
      have x0 : wr.cell? ⟨w.heap.size, 0, none⟩ = some (.int .i64 n) := (A1.out.on hbel).1 0 _ rfl
      have x1 : wr.cell? ⟨w.heap.size, 1, none⟩ = some (.slice ad l.length cap) := (A1.out.on hbel).1 1 _ rfl
      have x2 : wr.cell? ⟨w.heap.size, 2, none⟩ = some (.slice bd m.length cap') := (A1.out.on hbel).1 2 _ rfl
      by_cases hlt : j < l.length
      · clear hbel
        go_wp2_with fail
        refine (pointsOf_is n _ _ l m j _ (HI.out.on HB0.out) (HJ.out.on HB0.out) HP.out.1 hlt).mono ?_
        rintro e w5 ⟨rfl, hb5⟩
        have HB5 := Lib.hid (HBL.out.trans (hb5.mono HBL.out.size))
        clear hb5 x0 x1 x2
        have hix := fun W => index_row n (nth l j) (nth m j).toNat t ht0 ht30 W
        obtain ⟨b, hb⟩ : ∃ b, b = onB n (nth l j) (nth m j).toNat t.toNat := ⟨_, rfl⟩
        have HBB := Lib.hid (hb.trans (on_arc HP.out hlt))
        rw [← hb] at hix
        clear hb
        obtain ⟨row, hrow⟩ : ∃ row, row = (onRow n (nth l j) (nth m j).toNat).toArray := ⟨_, rfl⟩
        rw [← hrow] at hix ⊢
        clear hrow
        obtain ⟨P, hP⟩ : ∃ P, P = 2 ^ j := ⟨_, rfl⟩
        have p1 : (2 : Int) ^ j = (P : Int) := by rw [hP]; push_cast; rfl
        have hP1 : 1 ≤ P := by rw [hP]; exact Nat.pow_pos (by decide)
        have hP7 : P ≤ 64 := by rw [hP]; have := Nat.pow_le_pow_right (n := 2) (by decide) (show j ≤ 6 by omega); simpa using this
        have q1 : IntKind.i64.wrap (1 * (P : Int)) = P := IntWalk.i64_in _ (by omega) |>.trans (by omega)
        have hCl : C < P := by rw [HC.out, hP]; exact arcN_lt _ _ _ _ _
        have q2 : bits .or .i64 (C : Int) (P : Int) = ((C + P : Nat) : Int) := by have := or_freshA ⟨j, by omega⟩ ⟨C, by omega⟩ (by rw [← hP]; exact hCl); rw [← hP] at this; exact this
        have HPP := Lib.hid hP
        clear hP
        cases b with
        | false =>
          have HN := Lib.hid (show C = arcN n l m t (j + 1) by
            rw [arcN, if_neg (of_decide_eq_false HBB.out.symm)]; exact HC.out)
          go_wp2
          go_roundw
          case rel => exact ⟨j + 1, C, by omega, rfl, by go_num, HB5.out, HN.out⟩
          case measure => simp [intOf]; omega
        | true =>
          have HN := Lib.hid (show C + P = arcN n l m t (j + 1) by
            rw [arcN, if_pos (of_decide_eq_true HBB.out.symm), ← HC.out, ← HPP.out])
          go_wp2
          go_roundw
          case rel => exact ⟨j + 1, C + P, by omega, rfl, by go_num, HB5.out, HN.out⟩
          case measure => simp [intOf]; omega
      · obtain rfl : j = l.length := by omega
        have HE3 := Lib.hid (show R = (C : Int) by rw [HE.out HP.out, HC.out])
        go_wp2
        go_ret
        exact ⟨by rw [HE3.out] <;> rfl, HB0.out⟩

end Go.Proofs.Ytpifgmmmmhenmaa
