/- impl.wholeCircle. -/
import Derived.Test.YtgfndgjabhabjaaY23
import Derived.Test.YtgfndgjabhabjaaY20
import Derived.Test.YtgfndgjabhabjaaYo
namespace Go.Proofs.Ytgfndgjabhabjaa
set_option linter.unusedVariables false
set_option linter.unusedSimpArgs false
open Go.RowKit

def wholeB (i x : Nat) : Bool := decide (x < i)

theorem whole_zero : rowB (wholeB 0) = List.replicate 30 (Value.bool false) := by
  unfold rowB wholeB
  simp
  rfl

theorem whole_succ (i : Nat) (hi : i < 30) : (rowB (wholeB i)).set i (.bool true) = rowB (wholeB (i + 1)) := by
  rw [rowB_set _ hi]
  refine rowB_inj.2 fun x hx => ?_
  unfold wholeB
  by_cases h : x = i
  · simp [h]
  · rw [if_neg h]
    exact decide_eq_decide.2 (by omega)

set_option maxHeartbeats 4000000 in
set_option maxRecDepth 100000 in
theorem whole_is (N : Nat) (hN : N ≤ 30) (w : World) :
    Calls Try.prog 70 #[.int .i64 N] w (fun e w' => e = .returned (.agg (rowB (wholeB N)).toArray) ∧ Below w.heap.size w w') := by
  obtain ⟨w2, hw2⟩ : ∃ x, x = (w.alloc (.cells #[.bool false, .bool false, .bool false, .bool false, .bool false, .bool false, .bool false, .bool false, .bool false, .bool false, .bool false, .bool false, .bool false, .bool false, .bool false, .bool false, .bool false, .bool false, .bool false, .bool false, .bool false, .bool false, .bool false, .bool false, .bool false, .bool false, .bool false, .bool false, .bool false, .bool false] 77)).alloc (.cells #[.bool false, .bool false, .bool false, .bool false, .bool false, .bool false, .bool false, .bool false, .bool false, .bool false, .bool false, .bool false, .bool false, .bool false, .bool false, .bool false, .bool false, .bool false, .bool false, .bool false, .bool false, .bool false, .bool false, .bool false, .bool false, .bool false, .bool false, .bool false, .bool false, .bool false] 77) := ⟨_, rfl⟩
  have HW2 := Lib.hid hw2
  have F2 := Lib.hid (show Below w.heap.size w w2 by rw [hw2]; exact ((Below.refl _ w).alloc (Nat.le_refl _) _).alloc (by simp) _)
  have R1 := Lib.hid (show RowS w.heap.size (List.replicate 30 (.bool false)) w2 by
    rw [hw2]; exact (RowS.new w (List.replicate 30 (.bool false)) _).on (k := (w.alloc (.cells #[.bool false, .bool false, .bool false, .bool false, .bool false, .bool false, .bool false, .bool false, .bool false, .bool false, .bool false, .bool false, .bool false, .bool false, .bool false, .bool false, .bool false, .bool false, .bool false, .bool false, .bool false, .bool false, .bool false, .bool false, .bool false, .bool false, .bool false, .bool false, .bool false, .bool false] 77)).heap.size) ((Below.refl _ _).alloc (Nat.le_refl _) _) (by simp))
  have R2 := Lib.hid (show RowS (w.heap.size + 1) (List.replicate 30 (.bool false)) w2 by
    have := RowS.new (w.alloc (.cells #[.bool false, .bool false, .bool false, .bool false, .bool false, .bool false, .bool false, .bool false, .bool false, .bool false, .bool false, .bool false, .bool false, .bool false, .bool false, .bool false, .bool false, .bool false, .bool false, .bool false, .bool false, .bool false, .bool false, .bool false, .bool false, .bool false, .bool false, .bool false, .bool false, .bool false] 77)) (List.replicate 30 (.bool false)) 77
    rw [hw2]; simpa using this)
  clear hw2
  go_enter Try.func70, Try.ntmps70
  go_wp2
  rw [← HW2.out]
  go_loopw [4, 6] (fun _ c wr => ∃ i : Nat, i ≤ N ∧ c = .int .i64 i ∧ Hid (RowS w.heap.size (List.replicate 30 (.bool false)) wr) ∧ Hid (RowS (w.heap.size + 1) (rowB (wholeB i)) wr) ∧ Below w.heap.size w wr) (fun _ c _ => N - (intOf c).toNat)
  case atStart => exact ⟨0, by omega, rfl, R1.out, Lib.hid (by rw [whole_zero]; exact R2.out), F2.out⟩
  case round =>
    clear R1 R2 F2 HW2
    obtain ⟨i, hi, rfl, HR1, HR2, hbel⟩ := hrel
    have HB := Lib.hid hbel
    clear hbel
    by_cases hlt : i < N
    · have hi30 : i < 30 := by omega
      have r0 := HR2.out.cell i _ (rowB_get (wholeB i) hi30)
      have f0 := HR2.out.2.1 i
      obtain ⟨B, hB⟩ : ∃ B, B = wholeB i i := ⟨_, rfl⟩
      rw [← hB] at r0
      clear hB
      have HS := Lib.hid (show RowS (w.heap.size + 1) (rowB (wholeB (i + 1))) (wr.setCell ⟨w.heap.size + 1, i, none⟩ (.bool true)) by
        have := HR2.out.set i (by rw [rowB_len]; exact hi30) (.bool true)
        rw [whole_succ i hi30] at this
        exact this)
      have HR1s := Lib.hid (HR1.out.other (g' := w.heap.size + 1) i (.bool true) (by omega))
      have HBs := Lib.hid (HB.out.setCell (p := ⟨w.heap.size + 1, i, none⟩) (by show w.heap.size ≤ w.heap.size + 1; omega) (.bool true))
      go_wp2
      go_roundw
      case rel => exact ⟨i + 1, by omega, by go_num, HR1s.out, HS.out, HBs.out⟩
      case measure => simp [intOf]; omega
    · obtain rfl : i = N := by omega
      have HF := Lib.hid (rowB_one (wholeB i))
      have hu : Try.prog.underlying 77 = some (.array 30 4) := by kernel_rfl
      have hi9 : (Try.prog.info? 77).map (·.size) = some 30 := by kernel_rfl
      have HU := Lib.hid hu
      have HI := Lib.hid hi9
      have HT := Lib.hid (show wr.there w.heap.size 0 30 from fun a ha => ⟨by
        have := HR1.out.1.isSome a (by simpa using ha)
        exact this, HR1.out.2.1 _⟩)
      have hsc : (storeCells ⟨w.heap.size, 0, none⟩ (rowB (wholeB i))).run Try.prog wr = .ok () (wr.setCells w.heap.size 0 (rowB (wholeB i))) := by
        have := run_storeCells_cells (P := Try.prog) w.heap.size 0 (rowB (wholeB i)) 0 wr (fun j hj => by simpa using (HT.out j (by simpa [rowB_len] using hj)).1) (fun j hj => by simpa using (HT.out j (by simpa [rowB_len] using hj)).2)
          (fun v hv => by
            unfold rowB at hv
            obtain ⟨a, -, rfl⟩ := List.mem_map.1 hv
            rfl)
        simpa using this
      have HRN := Lib.hid (show (wr.setCells w.heap.size 0 (rowB (wholeB i))).rangeAt w.heap.size 0 (rowB (wholeB i)) from World.rangeAt_setCells_same _ _ _ _ (by rw [rowB_len]; exact HT.out))
      have HBF := Lib.hid (show Below w.heap.size w (wr.setCells w.heap.size 0 (rowB (wholeB i))) from below_setCells HB.out _ _ _ (by omega))
      clear hu hi9 hlt
      go_wp2_with (first
        | refine wpList_load_mid rfl 77 (.tmp 3) rfl (w.heap.size + 1) 0 rfl (rowB (wholeB i)) (.array 30 4) HR2.out.1 HU.out rfl (by rw [rowB_len]; exact HI.out) ?_)
      have hres := run_loadVar_mid (P := Try.prog) _ w.heap.size 0 77 (rowB (wholeB i)) (.array 30 4) HRN.out HU.out rfl (by rw [rowB_len]; exact HI.out)
      refine bodyPost_ret (v := .agg (rowB (wholeB i)).toArray) (by simp [results, Try.results70, asAddr, hres]) rfl ⟨rfl, HBF.out⟩

end Go.Proofs.Ytgfndgjabhabjaa
