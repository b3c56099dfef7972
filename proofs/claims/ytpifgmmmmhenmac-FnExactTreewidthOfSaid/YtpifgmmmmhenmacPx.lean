/- A table over all sets; the least width over all orders: impl. -/
import Derived.Test.YtpifgmmmmhenmacPw
import Derived.Test.YtpifgmmmmhenmacG8
import Derived.Test.YtpifgmmmmhenmacV6
import Derived.Test.YtpifgmmmmhenmacV7
import Derived.Test.YtpifgmmmmhenmacQ
import Derived.Test.YtpifgmmmmhenmacT1
import Derived.BigQuiet
namespace Go.Proofs.Ytpifgmmmmhenmac
set_option linter.unusedVariables false
set_option linter.unusedSimpArgs false
open Go.RowKit

def tabX (x : Nat → Int) (k : Nat) : List Int := (List.range k).map x

theorem tabX_succ (x : Nat → Int) (k : Nat) : tabX x (k + 1) = tabX x k ++ [x k] := by simp [tabX, List.range_succ]

theorem tabX_length (x : Nat → Int) (k : Nat) : (tabX x k).length = k := by simp [tabX]

theorem tabX_at (x : Nat → Int) {j k : Nat} (h : j < k) : nth (tabX x k) j = x j := by
  simp [nth, List.getD, tabX, List.getElem?_map, List.getElem?_range h]

/-- A function value that answers with the next entry of a table. -/
def RuleT (f : FuncId) (cp : Array Value) (x : Nat → Int) (F : Nat) (W0 : World) : Prop :=
  ∀ W (tv : Value) (s : Nat), s < F → Below W0.heap.size W0 W → Ints W tv (tabX x s) → Calls Try.prog f (#[tv, .int .i64 s] ++ cp) W fun e W' => e = .returned (.int .i64 (x s)) ∧ Below W.heap.size W W'

/-- A function value that answers with the cost of a vertex behind a set. -/
def RuleC (f : FuncId) (cp : Array Value) (c : Nat → Nat → Int) (F : Nat) (W0 : World) : Prop :=
  ∀ W (b v : Nat), v < 7 → b + 2 ^ v < F → b.testBit v = false → Below W0.heap.size W0 W → Calls Try.prog f (#[.int .i64 b, .int .i64 v] ++ cp) W fun e W' => e = .returned (.int .i64 (c b v)) ∧ Below W.heap.size W W'

theorem full_castP {n : Int} {l : List Int} (hg : IsG n l) : (2 : Int) ^ n.toNat - 1 + 1 = ((2 ^ l.length : Nat) : Int) ∧ 2 ^ l.length ≤ 128 ∧ 0 < 2 ^ l.length ∧ (2 : Int) ^ n.toNat = ((2 ^ l.length : Nat) : Int) ∧ l.length ≤ 7 := by
  have hn : n.toNat = l.length := by have := hg.2.2.1; omega
  have h7 : l.length ≤ 7 := by have := hg.2.1; have := hg.2.2.1; omega
  have h5 : ((2 ^ l.length : Nat) : Int) = (2 : Int) ^ l.length := by push_cast; rfl
  rw [hn]
  exact ⟨by omega, two_le _ h7, Nat.pow_pos (by decide), by omega, h7⟩

theorem OwnI.made0' (w : World) (B N : Nat) (hB : B ≤ w.heap.size) (hm : N ≤ maxLen) : OwnI B (w.alloc (.cells (madeCells #[.int .i64 0] N) 3)) (.slice (some ⟨w.heap.size, 0, none⟩) 0 N) [] :=
  ⟨inI64_nil, by simp [iv], .inr ⟨w.heap.size, N, madeCells #[.int .i64 0] N, rfl, hB, by show (w.heap.push _)[w.heap.size]? = _; rw [Array.getElem?_push_size], Nat.zero_le _, hm, by rw [size_madeCells, Nat.mul_one], by simp [iv]⟩⟩

theorem run_tab0 (N : Nat) (h : N ≤ 128) (W : World) : (Instr.makeSlice 70 (.int .i64 0) (.int .i64 (N : Int))).run Try.prog W = .ok (.slice (some ⟨W.heap.size, 0, none⟩) 0 N) (W.alloc (.cells (madeCells #[.int .i64 0] N) 3)) := by
  obtain ⟨i0, hi, hi0, hi1, hi2⟩ := info_parts infoInt
  have := run_make (P := Try.prog) W 70 3 i0 (.int .i64 0) Try.underlying70 hi hi0 .i64 .i64 0 N (by omega) (by omega) (by rw [hi2]; omega) (by omega)
  rw [hi1, Nat.mul_one] at this
  exact this

set_option maxHeartbeats 4000000 in
set_option maxRecDepth 100000 in
theorem newTab_any (f : FuncId) (cp : Array Value) (x : Nat → Int) (n : Int) (v : Value) (lg : List Int) (w : World) (h : Ints w v lg) (hg : IsG n lg) (he : Enters f) (hx : ∀ s, s < 2 ^ lg.length → -1000000 ≤ x s ∧ x s ≤ 1000000) (hr : RuleT f cp x (2 ^ lg.length) w) :
    Calls Try.prog 58 #[.agg #[.int .i64 n, v], .func (.func f) #[] cp] w (GetsI w.heap.size w (tabX x (2 ^ lg.length))) := by
  obtain ⟨a, cap, rfl, -, -⟩ := h.form
  have HA := argG' (T := 37) (n := n) h
  have HI := Lib.hid h
  have hn7 := hg.2.1
  have hn1 := hg.1
  obtain ⟨F, hF⟩ : ∃ F, F = 2 ^ lg.length := ⟨_, rfl⟩
  have hF7 : F ≤ 128 := by rw [hF]; exact (full_castP hg).2.1
  have hF0 : 0 < F := by rw [hF]; exact (full_castP hg).2.2.1
  have eM : (2 : Int) ^ n.toNat - 1 = ((F : Int) - 1) := by rw [hF]; have := (full_castP hg).2.2.2.1; omega
  rw [← hF] at hx hr ⊢
  have HX := Lib.hid hx
  have HR := Lib.hid hr
  have q1 : IntKind.i64.wrap ((F : Int) - 1 + 1) = (F : Int) := IntWalk.i64_in _ (by omega) |>.trans (by omega)
  have hmk := fun W => run_tab0 F hF7 W
  obtain ⟨i0, hi, hz0, hz1, hz2⟩ := info_parts infoInt
  clear h hx hr hF
  unfold Enters at he
  obtain ⟨w0, hw0⟩ : ∃ w0, w0 = w.alloc (.cells #[.int .i64 n, .slice a lg.length cap] 37) := ⟨_, rfl⟩
  have HB0 := Lib.hid (show Below (w.heap.size + 1) w0 w0 from Below.refl _ _)
  have HW0 := Lib.hid (show w0.heap.size = w.heap.size + 1 by rw [hw0]; simp)
  have HAV : Hid (∀ W, Below (w.heap.size + 1) w0 W → Calls Try.prog 50 #[.agg #[.int .i64 n, .slice a lg.length cap]] W fun e w' => e = .returned (.int .i64 ((F : Int) - 1)) ∧ Below W.heap.size W w') := fun W hW => by
    rw [← eM]; exact allVertices_is n _ lg _ (HA.out _ (by rw [hw0] at hW; exact hW)).2.2.1 hn1 hn7
  have HAX : Hid (∀ W, Below (w.heap.size + 1) w0 W → W.cell? ⟨w.heap.size, 0, none⟩ = some (.int .i64 n) ∧ W.cell? ⟨w.heap.size, 1, none⟩ = some (.slice a lg.length cap) ∧ Below w.heap.size w W ∧ w.heap.size + 1 ≤ W.heap.size) := fun W hW => by
    obtain ⟨c0, c1, cI, cB, hz⟩ := HA.out _ (by rw [hw0] at hW; exact hW)
    exact ⟨c0, c1, cB, by have := hW.size; have := HW0.out; omega⟩
  go_enter Try.func58, Try.ntmps58
  go_wp2_with fail
  rw [← hw0]
  clear hw0
  refine (HAV.out _ HB0.out).mono ?_
  rintro e w1 ⟨rfl, hb⟩
  have HB1 := Lib.hid (HB0.out.trans (hb.mono (by have := HW0.out; omega)))
  clear hb
  obtain ⟨c0, c1, -, hz1'⟩ := HAX.out _ HB1.out
  obtain ⟨w2, hw2⟩ : ∃ w2, w2 = w1.alloc (.cells (madeCells #[.int .i64 0] F) 3) := ⟨_, rfl⟩
  have HO2 := Lib.hid (show OwnI (w.heap.size + 1) w2 (.slice (some ⟨w1.heap.size, 0, none⟩) 0 F) (tabX x 0) by rw [hw2]; exact OwnI.made0' w1 _ F hz1' (by unfold maxLen; omega))
  have HB2 := Lib.hid (show Below (w.heap.size + 1) w0 w2 by rw [hw2]; exact HB1.out.alloc hz1' _)
  obtain ⟨q, hq⟩ : ∃ q, q = w1.heap.size := ⟨_, rfl⟩
  obtain ⟨-, -, -, hz2'⟩ := HAX.out _ HB2.out
  have hz9 : w.heap.size < w1.heap.size := by omega
  have HW2 := Lib.hid hw2
  have HQ := Lib.hid hq
  clear HB1 hw2 hq
  go_wp2_with fail
  rw [← HW2.out]
  refine (HAV.out _ HB2.out).mono ?_
  rintro e w3 ⟨rfl, hb⟩
  have HB3 := Lib.hid (HB2.out.trans (hb.mono hz2'))
  have HO3 := Lib.hid (HO2.out.on hb)
  clear hb HW2 HO2 HB2 c0 c1 hmk
  rw [← HQ.out] at HO3 ⊢
  clear HQ hz9
  go_wp2
  go_loopw [5, 6, 14] (fun tv _ xi wr => ∃ k : Nat, k ≤ F ∧ xi = .int .i64 k ∧ Hid (OwnI (w.heap.size + 1) wr tv (tabX x k)) ∧ Hid (Below (w.heap.size + 1) w0 wr)) (fun _ _ xi _ => F - (intOf xi).toNat)
  case atStart => exact ⟨0, by omega, rfl, HO3, HB3⟩
  case round =>
    clear HO3 HB3
    obtain ⟨k, hk, rfl, HO, HB⟩ := hrel
    obtain ⟨-, -, cB, cz⟩ := HAX.out _ HB.out
    have HCB := Lib.hid cB
    clear cB
    by_cases hlt : k < F
    · have d0 : decide ((k : Int) < (F : Int)) = true := decide_eq_true (by omega)
      have d0' : decide (k < F) = true := decide_eq_true hlt
      obtain ⟨y0, y1⟩ := HX.out k hlt
      have HS := Lib.hid (tabX_succ x k)
      have HL := Lib.hid (tabX_length x k)
      obtain ⟨y, hy⟩ : ∃ y, y = x k := ⟨_, rfl⟩
      have HY := Lib.hid hy
      go_wp2_with fail
      refine (HR.out _ _ k hlt HCB.out HO.out.ints).mono ?_
      rintro e w4 ⟨rfl, hb⟩
      rw [← hy] at y0 y1 ⊢
      have HO4 := Lib.hid (HO.out.on hb)
      have HB4 := Lib.hid (HB.out.trans (hb.mono cz))
      have hz4 : w.heap.size + 1 ≤ w4.heap.size := Nat.le_trans cz hb.size
      clear hb hy
      go_wp2_with (at_builtin; refine wpList_append_int rfl (.tmp 17) (.tmp 22) 70 rfl (w.heap.size + 1) i0 Try.underlying70 hi hz0 hz1 hz2 _ (tabX x k) rfl HO4.out y (by omega) (by omega) rfl (by rw [HL.out]; omega) hz4 ?_)
      intro v' w5 ho hg hne
      have HO5 := Lib.hid (show OwnI (w.heap.size + 1) w5 v' (tabX x (k + 1)) by rw [HS.out, ← HY.out]; exact ho)
      have HB5 := Lib.hid (show Below (w.heap.size + 1) w0 w5 from (HB4.out.alloc hz4 _).grown hg (by simp; omega) (fun j hj => (HO4.out.lt j hj).1))
      clear ho hg hne HO4 HB4
      go_wp2
      go_roundw
      case rel => exact ⟨k + 1, by omega, by go_num, HO5, HB5⟩
      case measure => simp [intOf]; omega
    · obtain rfl : k = F := by omega
      have d0 : decide ((k : Int) < (k : Int)) = false := by simp
      have d0' : decide (k < k) = false := by simp
      go_wp2
      go_ret
      exact ⟨_, rfl, HO.out.mono (by omega), HCB.out⟩

end Go.Proofs.Ytpifgmmmmhenmac
