/- WidthOfOrder. -/
import Derived.Test.YtgfndgjabhabjaaXa
import Derived.Test.YtgfndgjabhabjaaX8
import Derived.Test.YtgfndgjabhabjaaH3
namespace Go.Proofs.Ytgfndgjabhabjaa
set_option linter.unusedVariables false
set_option linter.unusedSimpArgs false
open Go.RowKit

/-- What one step of the second walk reckons. -/
theorem wid_step {n : Int} {lg l : List Int} (h : OrdP n lg l) {k : Nat} (hk : k < l.length) :
    ∃ X : Nat, laterR n (adjL lg.length (fillP lg.length (edB lg) l l.length)) l (nth l k) = (X : Int) ∧ X < 128 ∧ widK (adjL lg.length (fillP lg.length (edB lg) l l.length)) l (k + 1) = max (widK (adjL lg.length (fillP lg.length (edB lg) l l.length)) l k) (popN X) := by
  obtain ⟨hG, hO⟩ := fill_ord h l.length
  have hn := h.len
  have hv := (hO.1.at hk).2.1
  exact ⟨_, laterR_at hO hk, late_lt hO.1 (by rw [adjL_length]; exact hn.2.1) hv (by omega), rfl⟩

set_option maxHeartbeats 4000000 in
set_option maxRecDepth 100000 in
theorem specWidth (n : Int) (v vl : Value) (lg l : List Int) (w : World) (h : Ints w v lg) (hl : Ints w vl l) (hlen : l.length ≤ 1048576) (hnil : v = .slice none 0 0 ∨ ∃ ad cap, v = .slice (some ad) lg.length cap) :
    Calls Try.prog 38 #[.agg #[.int .i64 n, v], vl] w (SaysN (widthR n lg l) w) := by
  obtain ⟨a, cap, rfl, -, -⟩ := h.form
  obtain ⟨al9, capl, rfl, hcl, hmll⟩ := hl.form
  have HI := Lib.hid h
  have HLo := Lib.hid hl
  have HNI := Lib.hid hnil
  unfold maxLen at hmll
  clear h hl hnil
  obtain ⟨R, hR⟩ : ∃ R, R = widthR n lg l := ⟨_, rfl⟩
  have HR := Lib.hid hR
  rw [← hR]
  clear hR
  obtain ⟨w0, hw0⟩ : ∃ w0, w0 = (w.alloc (.cells #[.int .i64 n, .slice a lg.length cap] 44)) := ⟨_, rfl⟩
  have F0 := Lib.hid (show Below w.heap.size w w0 by rw [hw0]; exact (Below.refl _ w).alloc (Nat.le_refl _) _)
  have A0 := Lib.hid (show Box w.heap.size [.int .i64 n, .slice a lg.length cap] w0 by rw [hw0]; exact Box.new w _ _)
  have x0 : w0.cell? ⟨w.heap.size, 0, none⟩ = some (.int .i64 n) := A0.out.1 0 _ rfl
  have x1 : w0.cell? ⟨w.heap.size, 1, none⟩ = some (.slice a lg.length cap) := A0.out.1 1 _ rfl
  go_enter Try.func38, Try.ntmps38
  go_wp2_with fail
  rw [← hw0]
  clear hw0
  refine (specIsOrder n _ _ lg l _ (HI.out.on F0.out) (HLo.out.on F0.out) hlen).mono ?_
  rintro e w1 ⟨r, rfl, hr, hb⟩
  have HRR := Lib.hid hr
  have F1 := Lib.hid (F0.out.trans (hb.mono F0.out.size))
  have A1 := Lib.hid (A0.out.on hb)
  clear hb hr x0 x1 A0
  have x0 : w1.cell? ⟨w.heap.size, 0, none⟩ = some (.int .i64 n) := A1.out.1 0 _ rfl
  have x1 : w1.cell? ⟨w.heap.size, 1, none⟩ = some (.slice a lg.length cap) := A1.out.1 1 _ rfl
  cases r with
  | false =>
    have HN := Lib.hid (show ¬ OrdP n lg l from fun h => absurd (HRR.out.2 h) (by decide))
    have HRE := Lib.hid (show R = -1 by rw [HR.out]; unfold widthR; rw [if_neg HN.out])
    go_wp2
    go_ret
    exact ⟨by rw [HRE.out]; rfl, F1.out⟩
  | true =>
    have HO := Lib.hid (HRR.out.1 (by first | rfl | trivial))
    obtain ⟨N, hN⟩ : ∃ N, lg.length = N := ⟨_, rfl⟩
    have HNN := Lib.hid (show n = (N : Int) by have := HO.out.len; omega)
    have HNL := Lib.hid hN
    obtain ⟨LP, hP⟩ : ∃ LP, LP = adjL N (fillP N (edB lg) l l.length) := ⟨_, rfl⟩
    have hLP : LP.length = N := by rw [hP, adjL_length]
    have HRE := Lib.hid (show R = ((widK LP l l.length : Nat) : Int) by rw [HR.out]; unfold widthR; rw [if_pos HO.out, hN, ← hP])
    have HST := Lib.hid (show ∀ k, k < l.length → ∃ X : Nat, laterR n LP l (nth l k) = (X : Int) ∧ X < 128 ∧ widK LP l (k + 1) = max (widK LP l k) (popN X) from fun k hk => by
      have h1 := wid_step HO.out hk
      rw [hN, ← hP] at h1
      exact h1)
    have HCALL := Lib.hid (show Calls Try.prog 75 #[.agg #[.int .i64 n, .slice a lg.length cap], .slice al9 l.length capl] w1 (GetsG w1.heap.size w1 n LP) by
      rw [hP, HNN.out]
      exact specFilled N _ _ lg l w1 (HI.out.on F1.out) (HLo.out.on F1.out) hlen HNI.out (by rw [← HNN.out]; exact HO.out) hN)
    clear hN hP
    go_wp2_with fail
    refine HCALL.out.mono ?_
    rintro e w2 ⟨vc, rfl, ho, hb⟩
    have F2 := Lib.hid (F1.out.trans (hb.mono F1.out.size))
    have hfc := ho.ints.form
    rw [hLP] at hfc
    obtain ⟨ac, cc, rfl, -, hmc⟩ := hfc
    obtain ⟨w4, hw4⟩ : ∃ w4, w4 = (w2.alloc (.cells #[.int .i64 n, .slice ac N cc] 44)) := ⟨_, rfl⟩
    obtain ⟨y, hy⟩ : ∃ y, y = w2.heap.size := ⟨_, rfl⟩
    have hb4 : Below w2.heap.size w2 w4 := by rw [hw4]; exact (Below.refl _ _).alloc (Nat.le_refl _) _
    have F4 := Lib.hid (F2.out.trans (hb4.mono F2.out.size))
    have HO4 := Lib.hid (ho.on hb4)
    have C4 := Lib.hid (show Box y [.int .i64 n, .slice ac N cc] w4 by rw [hw4, hy]; exact Box.new w2 _ _)
    unfold maxLen at hmc
    clear ho hb hb4 x0 x1
    go_upto_region 4 with fail
    rw [← hw4, ← hy]
    clear hw4 hy
    go_wp2
    go_loopw [6, 7] (fun s c wr => ∃ (k B : Nat), k ≤ l.length ∧ c = .int .i64 (k : Int) ∧ s = .int .i64 (B : Int) ∧ B ≤ 7 ∧ Hid (B = widK LP l k) ∧ Hid (Below w4.heap.size w4 wr)) (fun _ c _ => l.length - (intOf c).toNat)
    case atStart => exact ⟨0, 0, by omega, rfl, rfl, by omega, rfl, Below.refl _ _⟩
    case round =>
      obtain ⟨k, B, hk, rfl, rfl, hB7, HB, HBL⟩ := hrel
      have FR := Lib.hid (F4.out.trans (HBL.out.mono F4.out.size))
      by_cases hlt : k < l.length
      · obtain ⟨b2, off2, cap2, hv, _, hm2, hbb, hcell⟩ := HLo.out.pos (by omega)
        simp only [Value.slice.injEq] at hv
        obtain ⟨rfl, -, rfl⟩ := hv
        obtain ⟨x, hx⟩ : ∃ x, x = nth l k := ⟨_, rfl⟩
        have e0 := (FR.out.cell (p := ⟨b2, off2 + k, none⟩) hbb).trans (hcell k hlt)
        rw [← hx] at e0
        obtain ⟨X, hX, hX7, hXW⟩ := HST.out k hlt
        rw [← hx] at hX
        have y0 : ∀ Y : Since wr, Y.val.cell? ⟨y, 0, none⟩ = some (.int .i64 n) := fun Y => ((C4.out.on HBL.out).on Y.prop).1 0 _ rfl
        have y1 : ∀ Y : Since wr, Y.val.cell? ⟨y, 1, none⟩ = some (.slice ac N cc) := fun Y => ((C4.out.on HBL.out).on Y.prop).1 1 _ rfl
        have y2 : ∀ Y : Since wr, Y.val.cell? ⟨b2, off2 + k, none⟩ = some (.int .i64 x) := fun Y => (Y.prop.cell (p := ⟨b2, off2 + k, none⟩) (by have := FR.out.size; show b2 < wr.heap.size; omega)).trans e0
        have HC1 : Hid (∀ Y : Since wr, Calls Try.prog 84 #[.agg #[.int .i64 n, .slice ac N cc], .slice (some ⟨b2, off2, none⟩) l.length capl, .int .i64 x] Y.val fun e w' => e = .returned (.int .i64 (X : Int)) ∧ Below Y.val.heap.size Y.val w') := fun Y => by
          rw [← hX]
          exact specLater n _ _ LP l x Y.val ((HO4.out.on HBL.out).on Y.prop).ints (HLo.out.on (FR.out.trans (Y.prop.mono FR.out.size))) hlen
        obtain ⟨p, hp⟩ : ∃ p, p = popN X := ⟨_, rfl⟩
        have hp7 : p ≤ 7 := by rw [hp]; exact pop_le7 X
        have HPU := Lib.hid (show popU (X : Int) = (p : Int) by rw [hp]; exact popU_w X hX7)
        obtain ⟨M, hM⟩ : ∃ M, M = max B p := ⟨_, rfl⟩
        have hM7 : M ≤ 7 := by omega
        have HMB := Lib.hid (show M = widK LP l (k + 1) by rw [hXW, ← HB.out, ← hp, hM])
        have HMM := Lib.hid (show (M : Int) = if (B : Int) < (p : Int) then (p : Int) else (B : Int) by split <;> omega)
        unfold maxLen at hm2
        have HC2 : Hid (∀ Y : Since wr, Calls Try.prog 83 #[.int .i64 (X : Int)] Y.val fun e w' => e = .returned (.int .i64 (p : Int)) ∧ Below Y.val.heap.size Y.val w') := fun Y => by
          rw [← HPU.out]; exact specCountSet (X : Int) Y.val
        clear hcell hx hX hXW hp hM e0 hbb
        go_wp2
        refine wp_region_since (by kernel_rfl) (by kernel_rfl) ?_
        by_cases hBp : (B : Int) < (p : Int)
        · have HME := Lib.hid (show (M : Int) = (p : Int) by rw [HMM.out, if_pos hBp])
          have d0 : decide ((B : Int) < (p : Int)) = true := decide_eq_true hBp
          repeat (go_big_quiet_step (first | with_reducible exact since_call (HC1.out _) | with_reducible exact since_call (HC2.out _)))
          refine wpQuiet_nil ?_
          intro Y
          have HB6 := Lib.hid (HBL.out.trans (Y.prop.mono HBL.out.size))
          clear y0 y1 y2
          go_wp2
          go_roundw
          case rel => exact ⟨k + 1, M, by omega, by go_num, by rw [HME.out], hM7, HMB.out, HB6.out⟩
          case measure => simp [intOf]; omega
        · have HME := Lib.hid (show (M : Int) = (B : Int) by rw [HMM.out, if_neg hBp])
          have d0 : decide ((B : Int) < (p : Int)) = false := decide_eq_false hBp
          repeat (go_big_quiet_step (first | with_reducible exact since_call (HC1.out _) | with_reducible exact since_call (HC2.out _)))
          refine wpQuiet_nil ?_
          intro Y
          have HB6 := Lib.hid (HBL.out.trans (Y.prop.mono HBL.out.size))
          clear y0 y1 y2
          go_wp2
          go_roundw
          case rel => exact ⟨k + 1, M, by omega, by go_num, by rw [HME.out], hM7, HMB.out, HB6.out⟩
          case measure => simp [intOf]; omega
      · obtain rfl : k = l.length := by omega
        have HF := Lib.hid (show R = (B : Int) by rw [HRE.out, HB.out])
        go_wp2
        go_ret
        exact ⟨by rw [HF.out]; rfl, FR.out⟩

end Go.Proofs.Ytgfndgjabhabjaa
