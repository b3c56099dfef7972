/- impl.ThresholdObstacle. -/
import Derived.Test.YtbmpljclplddeabW3
import Derived.Test.YtbmpljclplddeabW4
import Derived.Deep.RegionWith
namespace Go.Proofs.Ytbmpljclplddeab
set_option linter.unusedVariables false
set_option linter.unusedSimpArgs false
open Go.RowKit

def thrF : Nat → FuncId
  | 0 => 75
  | 1 => 121
  | _ => 77

def thrC (q : Nat) : Nat → Array Value
  | 1 => #[.pointer (some ⟨q, 0, none⟩)]
  | _ => #[]

/-- The call in the midst of impl.ThresholdObstacle. -/
theorem thrAny (n : Int) (v : Value) (lg : List Int) (q b : Nat) (w : World) (h : Ints w v lg) (hq : w.cell? ⟨q, 0, none⟩ = some (.int .i64 4)) (hq2 : q < w.heap.size) (hb : b < w.heap.size)
    (h0 : w.cell? ⟨b, 0, none⟩ = some (.func (.func 75) #[] #[])) (h1 : w.cell? ⟨b, 1, none⟩ = some (.func (.func 121) #[] #[.pointer (some ⟨q, 0, none⟩)])) (h2 : w.cell? ⟨b, 2, none⟩ = some (.func (.func 77) #[] #[])) :
    Calls Try.prog 74 #[.agg #[.int .i64 n, v], .int .i64 4, .slice (some ⟨b, 0, none⟩) 3 3] w (GetsLB w.heap.size w (thrR n lg)) := by
  rw [← thr_comb]
  refine fwAny n v lg w h 3 (by omega) b 0 3 thrF (thrC q) thrPat hb (fun j hj => ?_) (fun j hj => ?_) (fun j hj W hW => ?_)
  · have : j = 0 ∨ j = 1 ∨ j = 2 := by omega
    rcases this with rfl | rfl | rfl
    · exact h0
    · exact h1
    · exact h2
  · have : j = 0 ∨ j = 1 ∨ j = 2 := by omega
    rcases this with rfl | rfl | rfl
    · exact enters_two
    · exact enters_hole
    · exact enters_path
  · have : j = 0 ∨ j = 1 ∨ j = 2 := by omega
    rcases this with rfl | rfl | rfl
    · exact rule_two _ _ (by omega)
    · exact rule_hole 4 _ (by omega) q ((hW.cell (p := ⟨q, 0, none⟩) hq2).trans hq) (by have := hW.size; omega)
    · exact rule_path _ _ (by omega)

set_option maxHeartbeats 2000000 in
set_option maxRecDepth 100000 in
theorem implThr (n : Int) (v : Value) (lg : List Int) (w : World) (h : Ints w v lg) :
    Calls Try.prog 35 #[.agg #[.int .i64 n, v]] w (GetsLB w.heap.size w (thrR n lg)) := by
  obtain ⟨ad, capg, rfl, -, -⟩ := h.form
  have HI := Lib.hid h
  clear h
  have F0 := Lib.hid (show Below w.heap.size w (w.alloc (.cells #[.int .i64 n, .slice ad lg.length capg] 33)) from (Below.refl _ w).alloc (Nat.le_refl _) _)
  have A0 := Lib.hid (show Box w.heap.size [.int .i64 n, .slice ad lg.length capg] (w.alloc (.cells #[.int .i64 n, .slice ad lg.length capg] 33)) from Box.new w _ _)
  obtain ⟨R, hR⟩ : ∃ R, R = thrR n lg := ⟨_, rfl⟩
  have HR := Lib.hid hR
  rw [← hR]
  clear hR
  go_enter Try.func35, Try.ntmps35
  go_wp2
  go_region_with (first
    | (go_at_call 76; refine (holePattern_is 4 _).mono ?_; rintro e w1 ⟨q, rfl, hq, hq2, hb⟩
       have HW1 := Lib.hid (show Below w.heap.size w w1 from (by first | exact F0.out.trans (hb.mono F0.out.size) | exact F0.out.drew.trans (hb.mono F0.out.drew.size)))
       have x0 : w1.cell? ⟨w.heap.size, 0, none⟩ = some (.int .i64 n) := (by first | exact (A0.out.on hb).1 0 _ rfl | exact ((A0.out.on (Below.refl _ _).drew).on hb).1 0 _ rfl)
       have x1 : w1.cell? ⟨w.heap.size, 1, none⟩ = some (.slice ad lg.length capg) := (by first | exact (A0.out.on hb).1 1 _ rfl | exact ((A0.out.on (Below.refl _ _).drew).on hb).1 1 _ rfl)
       have hz : w.heap.size + 1 ≤ w1.heap.size := (by have := hb.size; simpa using this)
       have hz0 : w.heap.size < w1.heap.size := (by omega))
    | (go_at_call 74
       refine (thrAny n _ lg q w1.heap.size _ ((HI.out.on HW1.out).alloc _) (((gcell (grown_alloc w1 _ none)).1 _ _ hq2 (by simp)).trans hq) (by simp <;> omega) (by simp) (by simp [go_sem]) (by simp [go_sem]) (by simp [go_sem])).mono ?_
       rintro e w3 ⟨v3, rfl, ho, hb3⟩
       rw [← HR.out] at ho ⊢
       have HW3 := Lib.hid ((HW1.out.alloc HW1.out.size _).trans (hb3.mono (by have := HW1.out.size; simp <;> omega)))
       have HO3 := Lib.hid (ho.mono (B' := w.heap.size) (by have := HW1.out.size; simp <;> omega))
       clear ho hb3))
  all_goals
    go_wp2
    go_ret2
    exact ⟨_, rfl, HO3.out, HW3.out⟩

end Go.Proofs.Ytbmpljclplddeab
