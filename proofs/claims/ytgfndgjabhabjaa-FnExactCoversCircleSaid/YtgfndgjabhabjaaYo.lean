/- Two rows of points together; when two rows are one. (As XY24's and XY25's: in a seat where points.and has no body.) -/
import Derived.Test.YtgfndgjabhabjaaY23
import Derived.Test.YtgfndgjabhabjaaY20
import Derived.Laws.StructEq
namespace Go.Proofs.Ytgfndgjabhabjaa
set_option linter.unusedVariables false
set_option linter.unusedSimpArgs false
open Go.RowKit

theorem rowB_one (p : Nat → Bool) : (rowB p).toArray.all (·.oneCell') = true := all_oneCell_toArray (fun v hv => by
  unfold rowB at hv
  obtain ⟨a, -, rfl⟩ := List.mem_map.1 hv
  rfl)

set_option maxHeartbeats 2000000 in
set_option maxRecDepth 100000 in
theorem or_is (p q : Nat → Bool) (w : World) :
    Calls Try.prog 68 #[.agg (rowB p).toArray, .agg (rowB q).toArray] w (fun e w' => e = .returned (.agg (rowB fun x => p x || q x).toArray) ∧ Below w.heap.size w w') := by
  obtain ⟨A, hA⟩ : ∃ A, A = rowB p := ⟨_, rfl⟩
  obtain ⟨C, hC⟩ : ∃ C, C = rowB q := ⟨_, rfl⟩
  have oA : A.toArray.all (·.oneCell') = true := by rw [hA]; exact rowB_one p
  have oC : C.toArray.all (·.oneCell') = true := by rw [hC]; exact rowB_one q
  have HA := Lib.hid hA
  have HC := Lib.hid hC
  rw [← hA, ← hC]
  clear hA hC
  obtain ⟨R, hR⟩ : ∃ R, R = rowB (fun x => p x || q x) := ⟨_, rfl⟩
  rw [← hR]
  have HR := Lib.hid hR
  clear hR
  obtain ⟨w3, hw3⟩ : ∃ x, x = ((w.alloc (.cells A.toArray 77)).alloc (.cells C.toArray 77)).alloc (.cells #[.bool false, .bool false, .bool false, .bool false, .bool false, .bool false, .bool false, .bool false, .bool false, .bool false, .bool false, .bool false, .bool false, .bool false, .bool false, .bool false, .bool false, .bool false, .bool false, .bool false, .bool false, .bool false, .bool false, .bool false, .bool false, .bool false, .bool false, .bool false, .bool false, .bool false] 77) := ⟨_, rfl⟩
  have F3 := Lib.hid (show Below w.heap.size w w3 by rw [hw3]; exact ((((Below.refl _ w).alloc (Nat.le_refl _) _).alloc (by simp) _).alloc (by simp <;> omega) _))
  have s3 : w3.heap.size = w.heap.size + 3 := by rw [hw3]; simp
  have RA := Lib.hid (show RowS w.heap.size (rowB (mixB (fun a b => a || b) p q 0)) w3 by
    rw [mix_zero, ← HA.out, hw3]
    exact ((RowS.new w A 77).on (k := w.heap.size + 1) ((Below.refl _ _).alloc (by simp) _) (by omega)).on (k := w.heap.size + 1) ((Below.refl _ _).alloc (by simp) _) (by omega))
  have RC := Lib.hid (show RowS (w.heap.size + 1) (rowB q) w3 by
    rw [← HC.out, hw3]
    have := (RowS.new (w.alloc (.cells A.toArray 77)) C 77).on (k := w.heap.size + 2) (w' := ((w.alloc (.cells A.toArray 77)).alloc (.cells C.toArray 77)).alloc (.cells #[.bool false, .bool false, .bool false, .bool false, .bool false, .bool false, .bool false, .bool false, .bool false, .bool false, .bool false, .bool false, .bool false, .bool false, .bool false, .bool false, .bool false, .bool false, .bool false, .bool false, .bool false, .bool false, .bool false, .bool false, .bool false, .bool false, .bool false, .bool false, .bool false, .bool false] 77)) ((Below.refl _ _).alloc (by simp) _) (by simp)
    simpa using this)
  have RR := Lib.hid (show RowS (w.heap.size + 2) (List.replicate 30 (.bool false)) w3 by
    rw [hw3]
    have := RowS.new ((w.alloc (.cells A.toArray 77)).alloc (.cells C.toArray 77)) (List.replicate 30 (.bool false)) 77
    simpa using this)
  have HW3 := Lib.hid hw3
  clear hw3
  go_enter Try.func68, Try.ntmps68
  go_upto_region 1 with fail
  rw [← HW3.out]
  go_wp2
  clear oA oC
  go_loopw [6] (fun c wr => ∃ k : Nat, k ≤ 30 ∧ c = .int .i64 k ∧ Hid (RowS w.heap.size (rowB (mixB (fun a b => a || b) p q k)) wr) ∧ Hid (RowS (w.heap.size + 1) (rowB q) wr) ∧ Hid (RowS (w.heap.size + 2) (List.replicate 30 (.bool false)) wr) ∧ Below w.heap.size w wr) (fun c _ => 30 - (intOf c).toNat)
  case atStart => exact ⟨0, by omega, rfl, RA.out, RC.out, RR.out, F3.out⟩
  case round =>
    clear RA RC RR F3
    obtain ⟨k, hk, rfl, RA, RC, RR, hbel⟩ := hrel
    have HB := Lib.hid hbel
    clear hbel
    by_cases hlt : k < 30
    · obtain ⟨a, ha⟩ : ∃ a, a = p k := ⟨_, rfl⟩
      obtain ⟨c, hc⟩ : ∃ c, c = q k := ⟨_, rfl⟩
      have r0 : wr.cell? ⟨w.heap.size, k, none⟩ = some (.bool a) := by
        rw [ha]
        refine RA.out.cell k _ ?_
        rw [rowB_get _ hlt]
        unfold mixB
        simp
      have f0 := RA.out.2.1 k
      have r1 : wr.cell? ⟨w.heap.size + 1, k, none⟩ = some (.bool c) := by rw [hc]; exact RC.out.cell k _ (rowB_get q hlt)
      have HS := Lib.hid (show RowS w.heap.size (rowB (mixB (fun a b => a || b) p q (k + 1))) (wr.setCell ⟨w.heap.size, k, none⟩ (.bool (a || c))) by
        have := RA.out.set k (by rw [rowB_len]; exact hlt) (.bool (a || c))
        rw [ha, hc, mix_succ _ p q hlt] at this
        rw [ha, hc]
        exact this)
      have HC' := Lib.hid (RC.out.other (g' := w.heap.size) k (.bool (a || c)) (by omega))
      have HR' := Lib.hid (RR.out.other (g' := w.heap.size) k (.bool (a || c)) (by omega))
      have HB' := Lib.hid (HB.out.setCell (p := ⟨w.heap.size, k, none⟩) (Nat.le_refl _) (.bool (a || c)))
      clear ha hc
      cases a <;> cases c <;>
      · go_wp2
        go_roundw
        case rel => exact ⟨k + 1, by omega, by go_num, HS.out, HC'.out, HR'.out, HB'.out⟩
        case measure => simp [intOf]; omega
    · obtain rfl : k = 30 := by omega
      rw [mix_all] at RA
      have hR := HR.out
      rw [← hR] at RA
      have oR : ∀ v ∈ R, v.oneCell' = true := fun v hv => by rw [hR] at hv; unfold rowB at hv; obtain ⟨a, -, rfl⟩ := List.mem_map.1 hv; rfl
      have lR : R.length = 30 := by rw [hR]; exact rowB_len _
      have HF := Lib.hid (show R.toArray.all (·.oneCell') = true from all_oneCell_toArray oR)
      have hu : Try.prog.underlying 77 = some (.array 30 4) := by kernel_rfl
      have hi : (Try.prog.info? 77).map (·.size) = some 30 := by kernel_rfl
      have HU := Lib.hid hu
      have HI := Lib.hid hi
      have HT := Lib.hid (show wr.there (w.heap.size + 2) 0 30 from fun a ha => ⟨by
        have := RR.out.1.isSome a (by simpa using ha)
        exact this, RR.out.2.1 _⟩)
      have hsc : (storeCells ⟨w.heap.size + 2, 0, none⟩ R).run Try.prog wr = .ok () (wr.setCells (w.heap.size + 2) 0 R) := by
        have := run_storeCells_cells (P := Try.prog) (w.heap.size + 2) 0 R 0 wr (fun j hj => by simpa using (HT.out j (by simpa [lR] using hj)).1) (fun j hj => by simpa using (HT.out j (by simpa [lR] using hj)).2) oR
        simpa using this
      have HRN := Lib.hid (show (wr.setCells (w.heap.size + 2) 0 R).rangeAt (w.heap.size + 2) 0 R from World.rangeAt_setCells_same _ _ _ _ (by rw [lR]; exact HT.out))
      have HBF := Lib.hid (show Below w.heap.size w (wr.setCells (w.heap.size + 2) 0 R) from below_setCells HB.out _ _ _ (by omega))
      have HLR := Lib.hid lR
      clear hu hi hlt hR oR lR
      go_wp2_with (first
        | refine wpList_load_mid rfl 77 (.tmp 2) rfl w.heap.size 0 rfl R (.array 30 4) RA.out.1 HU.out rfl (by rw [HLR.out]; exact HI.out) ?_)
      have hres := run_loadVar_mid (P := Try.prog) _ (w.heap.size + 2) 0 77 R (.array 30 4) HRN.out HU.out rfl (by rw [HLR.out]; exact HI.out)
      refine bodyPost_ret (v := .agg R.toArray) (by simp [results, Try.results68, asAddr, hres]) rfl ⟨rfl, HBF.out⟩

theorem eq_row (p q : Nat → Bool) (w : World) : (Op.equalIn 10000 77 (.agg (rowB p).toArray) (.agg (rowB q).toArray)).run Try.prog w = .ok ((List.range 30).all fun x => p x == q x) w := by
  have ht : Try.prog.underlying 77 = some (.array 30 4) := by kernel_rfl
  have he : Try.prog.underlying 4 = some .bool := by kernel_rfl
  have hsz : ∀ w, (sizeOf 4).run Try.prog w = .ok 1 w := fun w => by rw [Try.sizeOf4]
  rw [List.range_eq_range', Op.equalIn]
  simp only [Sem.run_bind, run_underlying ht, Result.andThen_ok, hsz, Std.Legacy.Range.forIn_eq_forIn_range', Std.Legacy.Range.size, Nat.sub_zero, Nat.add_sub_cancel, Nat.div_one]
  have hl : ∀ i ∈ List.range' 0 30 1, i < 30 := fun i hi => by simpa using (List.mem_range'_1.1 hi).2
  generalize List.range' 0 30 1 = l at hl ⊢
  induction l with
  | nil => simp
  | cons i l ih =>
    have hi : i < 30 := hl i (by simp)
    have px : (part 4 (rowB p).toArray (i * 1)).run Try.prog w = .ok (.bool (p i)) w := by
      simp [part, isAgg, run_underlying he, rowB_get p hi]
    have py : (part 4 (rowB q).toArray (i * 1)).run Try.prog w = .ok (.bool (q i)) w := by
      simp [part, isAgg, run_underlying he, rowB_get q hi]
    have pe : (Op.equalIn 9999 4 (.bool (p i)) (.bool (q i))).run Try.prog w = .ok (p i == q i) w := run_equalIn_bool' w 9998 _ _ _ he
    simp only [List.forIn_cons, Sem.run_bind, px, py, pe, Result.andThen_ok, List.all_cons]
    cases hb : (p i == q i)
    · simp
    · simp only [Bool.not_true, Bool.false_eq_true, if_false, Sem.run_pure, Result.andThen_ok, Bool.true_and]
      exact ih fun j hj => hl j (by simp [hj])

end Go.Proofs.Ytgfndgjabhabjaa
