/- Trees: nodesOf, IsTree. -/
import Derived.Test.YtpifgmmmmhenmabY6
import Derived.Test.YtpifgmmmmhenmabH3
namespace Go.Proofs.Ytpifgmmmmhenmab
set_option linter.unusedVariables false
set_option linter.unusedSimpArgs false
open Go.RowKit

/-- Up to twenty bags; each one's parent stands before it, the first one has none. -/
def TreeP (l m : List Int) : Prop := (1 ≤ l.length ∧ l.length ≤ 20) ∧ m.length = l.length ∧ ∀ i, i < l.length → (0 ≤ nth l i ∧ nth l i ≤ 127) ∧ (i = 0 → nth m i = -1) ∧ (0 < i → 0 ≤ nth m i ∧ nth m i < i)

instance (l m : List Int) : Decidable (TreeP l m) := by unfold TreeP; exact inferInstance

theorem infoNode : (Try.prog.info? 83).map (fun i => (i.zero.map Value.cells, i.size, i.bytes)) = some (some #[.int .i64 0, .int .i64 0], 2, 16) := by kernel_rfl

theorem PairsTo.made' (w : World) (T : TypeId) (l m : List Int) : PairsTo w.heap.size 0 l m (w.alloc (.cells (madeCells #[.int .i64 0, .int .i64 0] (l.length * 2)) T)) := by
  refine ⟨fun i hi => ⟨0, 0, ?_, ?_, fun h => absurd h (by omega)⟩, fun o => World.frozen?_alloc_at _ _ _ _ rfl, by rw [World.size_alloc]; omega⟩
  · rw [World.cell?_alloc_at _ _ _ _ rfl]; exact made2_cell _ _ (by omega)
  · rw [World.cell?_alloc_at _ _ _ _ rfl]; exact made2_cell _ _ (by omega)

theorem run_make_node (N : Nat) (h : N ≤ 1048576) (W : World) : (Instr.makeSlice 65 (.int .i64 (N : Int)) (.int .i64 (N : Int))).run Try.prog W = .ok (.slice (some ⟨W.heap.size, 0, none⟩) N N) (W.alloc (.cells (madeCells #[.int .i64 0, .int .i64 0] (N * 2)) 83)) := by
  obtain ⟨i, hi, hzz⟩ := Option.map_eq_some_iff.1 infoNode
  simp only [Prod.mk.injEq] at hzz
  obtain ⟨hz, hs, hb⟩ := hzz
  obtain ⟨z, hz, hzc⟩ := Option.map_eq_some_iff.1 hz
  have := run_make (P := Try.prog) W 65 83 i z Try.underlying65 hi hz .i64 .i64 N N (by omega) (by omega) (by rw [hb]; omega) (by omega)
  rw [hs, hzc] at this
  simpa using this

set_option maxHeartbeats 2000000 in
set_option maxRecDepth 100000 in
theorem nodesOf_is (v u : Value) (l m : List Int) (w : World) (h : Ints w v l) (g : Ints w u m) (hl : l.length ≤ 1048576) (hm : m.length ≤ 1048576) (hml : l.length ≤ m.length) :
    Calls Try.prog 58 #[.agg #[v, u]] w fun e w' => ∃ g, e = .returned (.slice (some ⟨g, 0, none⟩) l.length l.length) ∧ w.heap.size ≤ g ∧ PairRow g l m w' ∧ Below w.heap.size w w' := by
  obtain ⟨ad, cap, rfl, -, -⟩ := h.form
  obtain ⟨bd, cap', rfl, -, -⟩ := g.form
  have HI := Lib.hid h
  have HJ := Lib.hid g
  clear h g
  have F0 := Lib.hid (show Below w.heap.size w (w.alloc (.cells #[.slice ad l.length cap, .slice bd m.length cap'] 42)) from (Below.refl _ w).alloc (Nat.le_refl _) _)
  have A0 := Lib.hid (show Box w.heap.size [.slice ad l.length cap, .slice bd m.length cap'] (w.alloc (.cells #[.slice ad l.length cap, .slice bd m.length cap'] 42)) from Box.new w _ _)
  have hmk := run_make_node l.length hl
  have HP0 := Lib.hid (PairsTo.made' (w.alloc (.cells #[.slice ad l.length cap, .slice bd m.length cap'] 42)) 83 l m)
  have HB0 := Lib.hid ((Below.refl _ (w.alloc (.cells #[.slice ad l.length cap, .slice bd m.length cap'] 42))).alloc (Nat.le_refl _) (.cells (madeCells #[.int .i64 0, .int .i64 0] (l.length * 2)) 83))
  go_enter Try.func58, Try.ntmps58
  go_wp2
  go_loopw [11] (fun i wr => ∃ j : Nat, j ≤ l.length ∧ i = .int .i64 j ∧ PairsTo (w.heap.size + 1) j l m wr ∧ Below (w.alloc (.cells #[.slice ad l.length cap, .slice bd m.length cap'] 42)).heap.size (w.alloc (.cells #[.slice ad l.length cap, .slice bd m.length cap'] 42)) wr) (fun i _ => l.length - (intOf i).toNat)
  case atStart => exact ⟨0, by omega, rfl, by simpa using HP0.out, HB0.out⟩
  case round =>
    clear hmk
    obtain ⟨j, hj, rfl, hpt, hbel⟩ := hrel
    have hB := F0.out.trans (hbel.mono F0.out.size)
    have x0 : wr.cell? ⟨w.heap.size, 0, none⟩ = some (.slice ad l.length cap) := (A0.out.on hbel).1 0 _ rfl
    have x1 : wr.cell? ⟨w.heap.size, 1, none⟩ = some (.slice bd m.length cap') := (A0.out.on hbel).1 1 _ rfl
    have hsz : w.heap.size + 1 < wr.heap.size := hpt.2.2
    have HBL := Lib.hid hbel
    by_cases hlt : j < l.length
    · have hltm : j < m.length := by omega
      obtain ⟨b, off, cap1, hv, _, _, hb, hcell⟩ := (HI.out.on hB).pos (by omega)
      simp only [Value.slice.injEq] at hv
      obtain ⟨rfl, -, rfl⟩ := hv
      obtain ⟨b', off', cap1', hv, _, _, hb', hcell'⟩ := (HJ.out.on hB).pos (by omega)
      simp only [Value.slice.injEq] at hv
      obtain ⟨rfl, -, rfl⟩ := hv
      obtain ⟨x, hx⟩ : ∃ x, x = nth l j := ⟨_, rfl⟩
      obtain ⟨y, hy⟩ : ∃ y, y = nth m j := ⟨_, rfl⟩
      have c1 := hcell j hlt
      have c2 := hcell' j hltm
      rw [← hx] at c1
      rw [← hy] at c2
      have HX := Lib.hid hx
      have HY := Lib.hid hy
      clear hcell hcell' hx hy
      obtain ⟨p, q, p1, p2, -⟩ := hpt.1 j hlt
      have pf := hpt.2.1
      have HPT := Lib.hid hpt
      have HPS := Lib.hid (hpt.set hlt).drew
      rw [← HX.out, ← HY.out] at HPS
      obtain ⟨w3, hw3⟩ : ∃ w3, w3 = ((wr.setCell ⟨w.heap.size + 1, j * 2, none⟩ (.int .i64 x)).setCell ⟨w.heap.size + 1, j * 2 + 1, none⟩ (.int .i64 y)).drew := ⟨_, rfl⟩
      rw [← hw3] at HPS
      have HB3 := Lib.hid (show Below (w.heap.size + 1) (w.alloc (.cells #[.slice (some ⟨b, off, none⟩) l.length cap, .slice (some ⟨b', off', none⟩) m.length cap'] 42)) w3 by rw [hw3]; exact (((HBL.out.mono (by simp)).setCell (by simp) _).setCell (by simp) _).drew)
      clear hpt hbel
      go_wp2
      go_still_tail 15, (by kernel_rfl)
      change wpList _ _ _ _ _ wr.drew
      go_wp2
      rw [← hw3]
      go_roundw
      case rel => exact ⟨j + 1, by omega, by go_num, HPS.out, HB3.out.mono (by simp)⟩
      case measure => simp [intOf]; omega
    · obtain rfl : j = l.length := by omega
      have HF := Lib.hid hB
      have HP := Lib.hid hpt
      clear hpt hbel hB
      go_wp2
      go_ret
      exact ⟨_, rfl, by omega, HP.out.full, HF.out⟩

set_option maxHeartbeats 4000000 in
set_option maxRecDepth 100000 in
theorem implIsTree (v u : Value) (l m : List Int) (w : World) (h : Ints w v l) (g : Ints w u m) (hl : l.length ≤ 1048576) (hm : m.length ≤ 1048576) :
    Calls Try.prog 56 #[.agg #[v, u]] w (SaysB (TreeP l m) w) := by
  obtain ⟨ad, cap, rfl, -, -⟩ := h.form
  obtain ⟨bd, cap', rfl, -, -⟩ := g.form
  have HI := Lib.hid h
  have HJ := Lib.hid g
  clear h g
  have F0 := Lib.hid (show Below w.heap.size w (w.alloc (.cells #[.slice ad l.length cap, .slice bd m.length cap'] 42)) from (Below.refl _ w).alloc (Nat.le_refl _) _)
  have A0 := Lib.hid (show Box w.heap.size [.slice ad l.length cap, .slice bd m.length cap'] (w.alloc (.cells #[.slice ad l.length cap, .slice bd m.length cap'] 42)) from Box.new w _ _)
  by_cases k1 : l.length < 1
  · have d1 : decide ((l.length : Int) < 1) = true := by simp; omega
    have HN := Lib.hid (show ¬ TreeP l m from fun h => by have := h.1.1; omega)
    go_enter Try.func56, Try.ntmps56
    go_wp2
    go_ret
    exact SaysB.no HN.out F0.out
  have d1 : decide ((l.length : Int) < 1) = false := by simp; omega
  by_cases k2 : 20 < l.length
  · have d2 : decide ((20 : Int) < (l.length : Int)) = true := by simp; omega
    have HN := Lib.hid (show ¬ TreeP l m from fun h => by have := h.1.2; omega)
    go_enter Try.func56, Try.ntmps56
    go_wp2
    go_ret
    exact SaysB.no HN.out F0.out
  have d2 : decide ((20 : Int) < (l.length : Int)) = false := by simp; omega
  by_cases k3 : m.length = l.length
  · have d3 : ((m.length : Int) != l.length) = false := by simp [k3]
    have hml : l.length ≤ m.length := by omega
    have hm0 : 0 < m.length := by omega
    have HK := Lib.hid k3
    clear k3
    obtain ⟨bb, offb, capb, hv, _, _, hbb, hcb⟩ := HJ.out.pos (by omega)
    simp only [Value.slice.injEq] at hv
    obtain ⟨rfl, -, rfl⟩ := hv
    obtain ⟨z, hz⟩ : ∃ z, z = nth m 0 := ⟨_, rfl⟩
    have cz : (w.alloc (.cells #[.slice ad l.length cap, .slice (some ⟨bb, offb, none⟩) m.length cap'] 42)).cell? ⟨bb, offb, none⟩ = some (.int .i64 z) := by
      have h1 := (F0.out.cell (p := ⟨bb, offb, none⟩) hbb).trans (hcb 0 (by omega))
      rw [← hz] at h1
      exact h1
    have HZ := Lib.hid hz
    clear hcb hz
    by_cases k4 : z = -1
    · have d4 : (z != -1) = false := by simp [k4]
      have HZ1 := Lib.hid k4
      clear k4
      go_enter Try.func56, Try.ntmps56
      go_wp2_with fail
      refine (nodesOf_is _ _ l m _ (HI.out.on F0.out) (HJ.out.on F0.out) hl hm hml).mono ?_
      rintro e w1 ⟨g, rfl, hg, hrow, hb⟩
      have HR := Lib.hid hrow
      have F1 := Lib.hid (F0.out.trans (hb.mono F0.out.size))
      clear hb hrow cz
      go_wp2
      go_loopw [34] (fun i wr => ∃ j : Nat, j ≤ l.length ∧ i = .int .i64 j ∧ Below w1.heap.size w1 wr ∧ Hid (∀ i, i < j → (0 ≤ nth l i ∧ nth l i ≤ 127) ∧ (i = 0 → nth m i = -1) ∧ (0 < i → 0 ≤ nth m i ∧ nth m i < i))) (fun i _ => l.length - (intOf i).toNat)
      case atStart => exact ⟨0, by omega, rfl, Below.refl _ _, fun i hi => absurd hi (by omega)⟩
      case round =>
        obtain ⟨j, hj, rfl, hbel, HO⟩ := hrel
        have HW := Lib.hid (F1.out.trans (hbel.mono F1.out.size))
        have hzr : w1.heap.size ≤ wr.heap.size := hbel.size
        by_cases hlt : j < l.length
        · have P3 := Lib.hid (HR.out.on hbel)
          obtain ⟨x, hx⟩ : ∃ x, x = nth l j := ⟨_, rfl⟩
          obtain ⟨y, hy⟩ : ∃ y, y = nth m j := ⟨_, rfl⟩
          have c1 := (P3.out.1 j hlt).1
          have c2 := (P3.out.1 j hlt).2
          rw [← hx] at c1
          rw [← hy] at c2
          have HX := Lib.hid hx
          have HY := Lib.hid hy
          clear hx hy
          have HBL := Lib.hid (hbel.alloc hzr (.cells #[.int .i64 x, .int .i64 y] 83))
          have HWL := Lib.hid (F1.out.trans (HBL.out.mono F1.out.size))
          clear hbel
          by_cases g1 : 0 ≤ x ∧ x ≤ 127
          · have q1 := g1.1
            have q2 := g1.2
            have hgo : Hid ((j = 0 → y = -1) → (0 < j → 0 ≤ y ∧ y < j) → ∀ i, i < j + 1 → (0 ≤ nth l i ∧ nth l i ≤ 127) ∧ (i = 0 → nth m i = -1) ∧ (0 < i → 0 ≤ nth m i ∧ nth m i < i)) := fun h1 h2 i hi => by
              rcases Nat.lt_or_ge i j with h | h
              · exact HO.out i h
              · obtain rfl : i = j := by omega
                rw [← HX.out, ← HY.out]; exact ⟨g1, h1, h2⟩
            clear g1
            by_cases g0 : j = 0
            · have d5 : decide ((0 : Int) < (j : Int)) = false := by simp; omega
              have g5 : ¬ 0 < j := by omega
              have HN := Lib.hid (hgo.out (fun _ => by rw [HY.out, g0, ← HZ.out]; exact HZ1.out) (fun h => absurd h (by omega)))
              clear g0 HO
              go_wp2_with fail
              refine (isAnySet_yes x _ q1 q2).mono ?_
              rintro e w4 ⟨rfl, rfl⟩
              go_wp2
              go_roundw
              case rel => exact ⟨j + 1, by omega, by go_num, HBL.out, HN.out⟩
              case measure => simp [intOf]; omega
            · have d5 : decide ((0 : Int) < (j : Int)) = true := by simp; omega
              have g5 : 0 < j := by omega
              by_cases g2 : 0 ≤ y
              · have d6 : decide (y < 0) = false := by simp; omega
                by_cases g3 : y < j
                · have d7 : decide ((j : Int) ≤ y) = false := by simp; omega
                  have HN := Lib.hid (hgo.out (fun h => absurd h g0) (fun _ => ⟨g2, g3⟩))
                  clear g0 HO g2 g3
                  go_wp2_with fail
                  refine (isAnySet_yes x _ q1 q2).mono ?_
                  rintro e w4 ⟨rfl, rfl⟩
                  go_wp2
                  go_roundw
                  case rel => exact ⟨j + 1, by omega, by go_num, HBL.out, HN.out⟩
                  case measure => simp [intOf]; omega
                · have d7 : decide ((j : Int) ≤ y) = true := by simp; omega
                  have HN := Lib.hid (show ¬ TreeP l m from fun h => by have := (h.2.2 j hlt).2.2 (by omega); rw [← HY.out] at this; omega)
                  clear g0 HO g2 g3
                  go_wp2_with fail
                  refine (isAnySet_yes x _ q1 q2).mono ?_
                  rintro e w4 ⟨rfl, rfl⟩
                  go_wp2
                  go_ret
                  exact SaysB.no HN.out HWL.out
              · have d6 : decide (y < 0) = true := by simp; omega
                have HN := Lib.hid (show ¬ TreeP l m from fun h => by have := (h.2.2 j hlt).2.2 (by omega); rw [← HY.out] at this; omega)
                clear g0 HO g2
                go_wp2_with fail
                refine (isAnySet_yes x _ q1 q2).mono ?_
                rintro e w4 ⟨rfl, rfl⟩
                go_wp2
                go_ret
                exact SaysB.no HN.out HWL.out
          · have HG := Lib.hid g1
            have HN := Lib.hid (show ¬ TreeP l m from fun h => g1 (by rw [HX.out]; exact (h.2.2 j hlt).1))
            clear g1
            go_wp2_with fail
            refine (isAnySet_no x _ HG.out).mono ?_
            rintro e w4 ⟨rfl, rfl⟩
            go_wp2
            go_ret
            exact SaysB.no HN.out HWL.out
        · obtain rfl : j = l.length := by omega
          have HN := Lib.hid (show TreeP l m from ⟨⟨by omega, by omega⟩, HK.out, HO.out⟩)
          go_wp2
          go_ret
          exact SaysB.yes HN.out HW.out
    · have d4 : (z != -1) = true := by simp [k4]
      have HN := Lib.hid (show ¬ TreeP l m from fun h => k4 (by rw [HZ.out]; exact (h.2.2 0 (by omega)).2.1 rfl))
      clear k4
      go_enter Try.func56, Try.ntmps56
      go_wp2
      go_ret
      exact SaysB.no HN.out F0.out
  · have d3 : ((m.length : Int) != l.length) = true := by simp; omega
    have HN := Lib.hid (show ¬ TreeP l m from fun h => k3 h.2.1)
    clear k3
    go_enter Try.func56, Try.ntmps56
    go_wp2
    go_ret
    exact SaysB.no HN.out F0.out

set_option maxHeartbeats 4000000 in
set_option maxRecDepth 100000 in
theorem specIsTree (v u : Value) (l m : List Int) (w : World) (h : Ints w v l) (g : Ints w u m) (hl : l.length ≤ 1048576) (hm : m.length ≤ 1048576) :
    Calls Try.prog 54 #[.agg #[v, u]] w (SaysB (TreeP l m) w) := by
  obtain ⟨ad, cap, rfl, -, -⟩ := h.form
  obtain ⟨bd, cap', rfl, -, -⟩ := g.form
  have HI := Lib.hid h
  have HJ := Lib.hid g
  clear h g
  have F0 := Lib.hid (show Below w.heap.size w (w.alloc (.cells #[.slice ad l.length cap, .slice bd m.length cap'] 42)) from (Below.refl _ w).alloc (Nat.le_refl _) _)
  have A0 := Lib.hid (show Box w.heap.size [.slice ad l.length cap, .slice bd m.length cap'] (w.alloc (.cells #[.slice ad l.length cap, .slice bd m.length cap'] 42)) from Box.new w _ _)
  by_cases k1 : (1 : Int) ≤ (l.length : Int) ∧ (l.length : Int) ≤ 20
  · have q3 := k1.1
    have q4 := k1.2
    clear k1
    by_cases k3 : m.length = l.length
    · have d3 : ((m.length : Int) != l.length) = false := by simp [k3]
      have hml : l.length ≤ m.length := by omega
      have HK := Lib.hid k3
      clear k3
      go_enter Try.func54, Try.ntmps54
      go_wp2_with fail
      refine (l1In_yes' _ _ _ _ q3 q4).mono ?_
      rintro e w1 ⟨rfl, rfl⟩
      go_wp2
      go_loopw [3] (fun i wr => ∃ j : Nat, j ≤ l.length ∧ i = .int .i64 j ∧ Below (w.alloc (.cells #[.slice ad l.length cap, .slice bd m.length cap'] 42)).heap.size (w.alloc (.cells #[.slice ad l.length cap, .slice bd m.length cap'] 42)) wr ∧ Hid (∀ i, i < j → (0 ≤ nth l i ∧ nth l i ≤ 127) ∧ (i = 0 → nth m i = -1) ∧ (0 < i → 0 ≤ nth m i ∧ nth m i < i))) (fun i _ => l.length - (intOf i).toNat)
      case atStart => exact ⟨0, by omega, rfl, Below.refl _ _, fun i hi => absurd hi (by omega)⟩
      case round =>
        obtain ⟨j, hj, rfl, hbel, HO⟩ := hrel
        have hB := F0.out.trans (hbel.mono F0.out.size)
        have HW := Lib.hid hB
        have x0 : wr.cell? ⟨w.heap.size, 0, none⟩ = some (.slice ad l.length cap) := (A0.out.on hbel).1 0 _ rfl
        have x1 : wr.cell? ⟨w.heap.size, 1, none⟩ = some (.slice bd m.length cap') := (A0.out.on hbel).1 1 _ rfl
        by_cases hlt : j < l.length
        · have hltm : j < m.length := by omega
          obtain ⟨b, off, cap1, hv, _, _, hb, hcell⟩ := (HI.out.on hB).pos (by omega)
          simp only [Value.slice.injEq] at hv
          obtain ⟨rfl, -, rfl⟩ := hv
          obtain ⟨b', off', cap1', hv, _, _, hb', hcell'⟩ := (HJ.out.on hB).pos (by omega)
          simp only [Value.slice.injEq] at hv
          obtain ⟨rfl, -, rfl⟩ := hv
          obtain ⟨x, hx⟩ : ∃ x, x = nth l j := ⟨_, rfl⟩
          obtain ⟨y, hy⟩ : ∃ y, y = nth m j := ⟨_, rfl⟩
          have c1 := hcell j hlt
          have c2 := hcell' j hltm
          rw [← hx] at c1
          rw [← hy] at c2
          have HX := Lib.hid hx
          have HY := Lib.hid hy
          clear hcell hcell' hx hy
          by_cases g1 : 0 ≤ x ∧ x ≤ 127
          · have q1 := g1.1
            have q2 := g1.2
            have hgo : Hid ((j = 0 → y = -1) → (0 < j → 0 ≤ y ∧ y < j) → ∀ i, i < j + 1 → (0 ≤ nth l i ∧ nth l i ≤ 127) ∧ (i = 0 → nth m i = -1) ∧ (0 < i → 0 ≤ nth m i ∧ nth m i < i)) := fun h1 h2 i hi => by
              rcases Nat.lt_or_ge i j with h | h
              · exact HO.out i h
              · obtain rfl : i = j := by omega
                rw [← HX.out, ← HY.out]; exact ⟨g1, h1, h2⟩
            clear g1
            by_cases g0 : j = 0
            · have d5 : ((j : Int) == 0) = true := by simp; omega
              have d6 : decide ((0 : Int) < (j : Int)) = false := by simp; omega
              have g5 : ¬ 0 < j := by omega
              by_cases g4 : y = -1
              · have d7 : (y != -1) = false := by simp [g4]
                have HN := Lib.hid (hgo.out (fun _ => g4) (fun h => absurd h (by omega)))
                clear g0 HO g4
                go_wp2_with fail
                refine (l3Fine_yes x _ q1 q2).mono ?_
                rintro e w4 ⟨rfl, rfl⟩
                go_wp2
                go_roundw
                case rel => exact ⟨j + 1, by omega, by go_num, hbel, HN.out⟩
                case measure => simp [intOf]; omega
              · have d7 : (y != -1) = true := by simp [g4]
                have HN := Lib.hid (show ¬ TreeP l m from fun h => g4 (by rw [HY.out]; exact (h.2.2 j hlt).2.1 g0))
                clear g0 HO g4
                go_wp2_with fail
                refine (l3Fine_yes x _ q1 q2).mono ?_
                rintro e w4 ⟨rfl, rfl⟩
                go_wp2
                go_ret
                exact SaysB.no HN.out HW.out
            · have d5 : ((j : Int) == 0) = false := by simp; omega
              have d6 : decide ((0 : Int) < (j : Int)) = true := by simp; omega
              have g5 : 0 < j := by omega
              have q9 : IntKind.i64.wrap ((j : Int) - 1) = (j : Int) - 1 := IntWalk.i64_in _ (by omega) |>.trans (by omega)
              by_cases g2 : 0 ≤ y ∧ y ≤ (j : Int) - 1
              · have HN := Lib.hid (hgo.out (fun h => absurd h g0) (fun _ => ⟨g2.1, by omega⟩))
                have q5 := g2.1
                have q6 := g2.2
                clear g0 HO g2
                go_wp2_with fail
                refine (l3Fine_yes x _ q1 q2).mono ?_
                rintro e w4 ⟨rfl, rfl⟩
                go_wp2_with fail
                refine (l1In_yes' _ _ _ _ q5 q6).mono ?_
                rintro e w5 ⟨rfl, rfl⟩
                go_wp2
                go_roundw
                case rel => exact ⟨j + 1, by omega, by go_num, hbel, HN.out⟩
                case measure => simp [intOf]; omega
              · have HG2 := Lib.hid g2
                have HN := Lib.hid (show ¬ TreeP l m from fun h => by have := (h.2.2 j hlt).2.2 (by omega); rw [← HY.out] at this; omega)
                clear g0 HO g2
                go_wp2_with fail
                refine (l3Fine_yes x _ q1 q2).mono ?_
                rintro e w4 ⟨rfl, rfl⟩
                go_wp2_with fail
                refine (l1In_no' _ _ _ _ HG2.out).mono ?_
                rintro e w5 ⟨rfl, rfl⟩
                go_wp2
                go_ret
                exact SaysB.no HN.out HW.out
          · have HG := Lib.hid g1
            have HN := Lib.hid (show ¬ TreeP l m from fun h => g1 (by rw [HX.out]; exact (h.2.2 j hlt).1))
            clear g1
            go_wp2_with fail
            refine (l3Fine_no x _ HG.out).mono ?_
            rintro e w4 ⟨rfl, rfl⟩
            go_wp2
            go_ret
            exact SaysB.no HN.out HW.out
        · obtain rfl : j = l.length := by omega
          have HN := Lib.hid (show TreeP l m from ⟨⟨by omega, by omega⟩, HK.out, HO.out⟩)
          go_wp2
          go_ret
          exact SaysB.yes HN.out HW.out
    · have d3 : ((m.length : Int) != l.length) = true := by simp; omega
      have HN := Lib.hid (show ¬ TreeP l m from fun h => k3 h.2.1)
      clear k3
      go_enter Try.func54, Try.ntmps54
      go_wp2_with fail
      refine (l1In_yes' _ _ _ _ q3 q4).mono ?_
      rintro e w1 ⟨rfl, rfl⟩
      go_wp2
      go_ret
      exact SaysB.no HN.out F0.out
  · have HN := Lib.hid (show ¬ TreeP l m from fun h => k1 ⟨by have := h.1.1; omega, by have := h.1.2; omega⟩)
    have HG := Lib.hid k1
    clear k1
    go_enter Try.func54, Try.ntmps54
    go_wp2_with fail
    refine (l1In_no' _ _ _ _ HG.out).mono ?_
    rintro e w1 ⟨rfl, rfl⟩
    go_wp2
    go_ret
    exact SaysB.no HN.out F0.out

end Go.Proofs.Ytpifgmmmmhenmab
