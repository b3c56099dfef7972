/- spec.TreeSeparators. -/
import Derived.Test.YtcpchdnhhjhpaaaTr
namespace Go.Proofs.Ytcpchdnhhjhpaaa
set_option linter.unusedVariables false
set_option linter.unusedSimpArgs false
open Go.RowKit Go.Shelf Go.Sort

theorem sepR_length (l m : List Int) : (sepR l m).length ≤ 20 := by
  unfold sepR
  split
  · rename_i h
    rw [sortL_length]
    have := ded_length (sepX l m) (l.length - 1)
    have := h.1.2
    omega
  · simp

set_option maxHeartbeats 4000000 in
set_option maxRecDepth 100000 in
theorem specTreeSep (v u : Value) (l m : List Int) (w : World) (h : Ints w v l) (g : Ints w u m) (hl : l.length ≤ 1048576) (hm : m.length ≤ 1048576) :
    Calls Try.prog 57 #[.agg #[v, u]] w (GetsI w.heap.size w (sepR l m)) := by
  obtain ⟨i0, hi, hz0, hz1', hz2⟩ := info_parts infoInt
  obtain ⟨ad, cap, rfl, -, -⟩ := h.form
  obtain ⟨bd, cap', rfl, -, -⟩ := g.form
  have HI := Lib.hid h
  have HJ := Lib.hid g
  obtain ⟨R, hR⟩ : ∃ R, R = sepR l m := ⟨_, rfl⟩
  have HR := Lib.hid hR
  rw [← hR]
  clear h g hR
  obtain ⟨w0, hw0⟩ : ∃ w0, w0 = (w.alloc (.cells #[.slice ad l.length cap, .slice bd m.length cap'] 58)) := ⟨_, rfl⟩
  obtain ⟨w1, hw1⟩ : ∃ w1, w1 = w0.alloc (.cells #[] 3) := ⟨_, rfl⟩
  have F1 := Lib.hid (show Below w.heap.size w w1 by rw [hw1, hw0]; exact ((Below.refl _ w).alloc (Nat.le_refl _) _).alloc (by simp) _)
  have A1 := Lib.hid (show Box w.heap.size [.slice ad l.length cap, .slice bd m.length cap'] w1 by rw [hw1, hw0]; exact (Box.new w _ _).on ((Below.refl _ _).alloc (Nat.le_refl _) _))
  have O1 := Lib.hid (show OwnI (w.heap.size + 1) w1 (.slice (some ⟨w.heap.size + 1, 0, none⟩) 0 0) [] by
    rw [hw1]
    have h1 := OwnI.none0 (B := w.heap.size + 1) (w := w0) (by rw [hw0]; simp)
    have h2 : w0.heap.size = w.heap.size + 1 := by rw [hw0]; simp
    rw [h2] at h1
    exact h1)
  go_enter Try.func57, Try.ntmps57
  go_wp2
  rw [← hw0, ← hw1]
  have hz1 : w1.heap.size = w.heap.size + 2 := by rw [hw1, hw0]; simp
  have hz1x : w.heap.size + 1 ≤ w1.heap.size := by omega
  clear hw1 hw0 hz1
  obtain ⟨N, hN⟩ : ∃ N, N = l.length - 1 := ⟨_, rfl⟩
  have HNN := Lib.hid hN
  clear hN
  have HEND : Hid (∀ j, (TreeP l m → j = N) → (¬ TreeP l m → j = 0) → R = sortL (dedF (sepX l m) j)) := fun j h1 h2 => by
    rw [HR.out]
    unfold sepR
    by_cases ht : TreeP l m
    · rw [if_pos ht, h1 ht, HNN.out]
    · rw [if_neg ht, h2 ht]; simp [dedF, sortL]
  have HBX : Hid (∀ W, Below (w.heap.size + 1) w1 W → W.cell? ⟨w.heap.size, 0, none⟩ = some (.slice ad l.length cap) ∧ W.cell? ⟨w.heap.size, 1, none⟩ = some (.slice bd m.length cap') ∧ Ints W (.slice ad l.length cap) l ∧ Ints W (.slice bd m.length cap') m ∧ Below w.heap.size w W) := fun W hW =>
    ⟨(hW.cell (p := ⟨w.heap.size, 0, none⟩) (by show w.heap.size < _; omega)).trans (A1.out.1 0 _ rfl), (hW.cell (p := ⟨w.heap.size, 1, none⟩) (by show w.heap.size < _; omega)).trans (A1.out.1 1 _ rfl), HI.out.on (F1.out.trans (hW.mono (by omega))), HJ.out.on (F1.out.trans (hW.mono (by omega))), F1.out.trans (hW.mono (by omega))⟩
  go_loopw [3, 4, 5] (fun s x _ wr => ∃ j : Nat, j ≤ N ∧ x = .int .i64 ((j : Int) + 1) ∧ Hid (j = 0 ∨ TreeP l m) ∧ Hid (OwnI (w.heap.size + 1) wr s (dedF (sepX l m) j)) ∧ Below (w.heap.size + 1) w1 wr) (fun _ x _ _ => l.length - (intOf x).toNat)
  case atStart => exact ⟨0, by omega, by simp, .inl rfl, Lib.hid (show OwnI _ _ _ (dedF (sepX l m) 0) from O1.out), Below.refl _ _⟩
  case round =>
    obtain ⟨j, hjN, rfl, HJT, HO, hbel⟩ := hrel
    have HBL := Lib.hid hbel
    have hzr : w.heap.size + 1 ≤ wr.heap.size := by have := hbel.size; omega
    obtain ⟨x0, x1, -, -, -⟩ := HBX.out _ hbel
    clear hbel
    obtain ⟨al, capl, rfl, -, -⟩ := HO.out.ints.form
    have hdl := ded_length (sepX l m) j
    have hNl : N ≤ 1048576 := by have := HNN.out; omega
    obtain ⟨D, hD⟩ : ∃ D, D = dedF (sepX l m) j := ⟨_, rfl⟩
    have HDD := Lib.hid hD
    rw [← hD] at HO hdl ⊢
    clear hD
    have hSRT : Hid (∀ W, Below wr.heap.size wr W → Calls Try.prog 113 #[.slice al D.length capl] W (GetsI W.heap.size W (sortL D))) := fun W hW => specSorted _ D W (HO.out.on hW).ints (by omega)
    by_cases hlt : j + 1 < l.length
    · have hd0 : decide (((j : Int) + 1) < (l.length : Int)) = true := decide_eq_true (by omega)
      go_wp2_with fail
      refine (specIsTree _ _ l m _ (HBX.out _ HBL.out).2.2.1 (HBX.out _ HBL.out).2.2.2.1 hl hm).mono ?_
      rintro e w2 ⟨r, rfl, hr, hb2⟩
      have HRT := Lib.hid hr
      have HB2 := Lib.hid hb2
      have HBL2 := Lib.hid (HBL.out.trans (hb2.mono hzr))
      have hzz : wr.heap.size ≤ w2.heap.size := hb2.size
      clear hr hb2 x0 x1
      cases r with
      | false =>
        have HNT := Lib.hid (show ¬ TreeP l m from fun h => absurd (HRT.out.2 h) (by decide))
        have HRE := Lib.hid (show R = sortL D by rw [HDD.out]; exact HEND.out j (fun h => absurd h HNT.out) (fun _ => HJT.out.resolve_right HNT.out))
        go_wp2_with fail
        refine (hSRT.out _ HB2.out).mono ?_
        rintro e w3 ⟨v3, rfl, ho3, hb3⟩
        have HO3 := Lib.hid ho3
        have HB3 := Lib.hid ((HBX.out _ HBL2.out).2.2.2.2.trans (hb3.mono (by omega)))
        clear ho3 hb3
        go_wp2
        go_ret
        exact ⟨_, rfl, by rw [HRE.out]; exact HO3.out.mono (by omega), HB3.out⟩
      | true =>
        have HT := Lib.hid (HRT.out.1 (by first | rfl | trivial))
        obtain ⟨A, B, hA, hB, hA7, hB7, k, hk, hki, hsx, hs7⟩ := sepX_facts HT.out (i := j) hlt
        rw [hk, Int.toNat_natCast] at hB
        obtain ⟨b1, off1, cp1, hv, _, hmx1, hbk1, hcell1⟩ := HI.out.pos (by omega)
        simp only [Value.slice.injEq] at hv
        obtain ⟨rfl, -, rfl⟩ := hv
        have hml := HT.out.2.1
        have HML := Lib.hid hml
        obtain ⟨b2, off2, cp2, hv, _, hmx2, hbk2, hcell2⟩ := HJ.out.pos (by omega)
        simp only [Value.slice.injEq] at hv
        obtain ⟨rfl, -, rfl⟩ := hv
        unfold maxLen at hmx1 hmx2
        have HCX : Hid (∀ W, Below (w.heap.size + 1) w1 W → W.cell? ⟨b1, off1 + (j + 1), none⟩ = some (.int .i64 A) ∧ W.cell? ⟨b2, off2 + (j + 1), none⟩ = some (.int .i64 k) ∧ W.cell? ⟨b1, off1 + k, none⟩ = some (.int .i64 B)) := fun W hW => by
          have hb := (HBX.out W hW).2.2.2.2
          refine ⟨?_, ?_, ?_⟩
          · rw [← hA]; exact (hb.cell (p := ⟨b1, off1 + (j + 1), none⟩) hbk1).trans (hcell1 _ hlt)
          · rw [← hk]; exact (hb.cell (p := ⟨b2, off2 + (j + 1), none⟩) hbk2).trans (hcell2 _ (by omega))
          · rw [← hB]; exact (hb.cell (p := ⟨b1, off1 + k, none⟩) hbk1).trans (hcell1 _ (by omega))
        have hkl : (k : Int) < (l.length : Int) := by omega
        have hk0 : (0 : Int) ≤ (k : Int) := by omega
        have hjm : (j : Int) + 1 < (m.length : Int) := by omega
        have hj0 : (0 : Int) ≤ (j : Int) + 1 := by omega
        have ha1 : ∀ X : Since w2, X.val.cell? ⟨w.heap.size, 0, none⟩ = some (.slice (some ⟨b1, off1, none⟩) l.length cap) := fun X => (HBX.out _ (HBL2.out.trans (X.prop.mono (by omega)))).1
        have ha2 : ∀ X : Since w2, X.val.cell? ⟨w.heap.size, 1, none⟩ = some (.slice (some ⟨b2, off2, none⟩) m.length cap') := fun X => (HBX.out _ (HBL2.out.trans (X.prop.mono (by omega)))).2.1
        have ha3 : ∀ X : Since w2, X.val.cell? ⟨b1, off1 + (j + 1), none⟩ = some (.int .i64 A) := fun X => (HCX.out _ (HBL2.out.trans (X.prop.mono (by omega)))).1
        have ha4 : ∀ X : Since w2, X.val.cell? ⟨b2, off2 + (j + 1), none⟩ = some (.int .i64 k) := fun X => (HCX.out _ (HBL2.out.trans (X.prop.mono (by omega)))).2.1
        have ha5 : ∀ X : Since w2, X.val.cell? ⟨b1, off1 + k, none⟩ = some (.int .i64 B) := fun X => (HCX.out _ (HBL2.out.trans (X.prop.mono (by omega)))).2.2
        obtain ⟨C, hC⟩ : ∃ C, C = A &&& B := ⟨_, rfl⟩
        have e9 : bits .and .i64 (A : Int) (B : Int) = (C : Int) := by rw [hC]; exact (bits_nat A B hA7 hB7).1
        have HSX := Lib.hid (show dedF (sepX l m) (j + 1) = dedS D (C : Int) by
          show dedS (dedF (sepX l m) j) (sepX l m j) = _
          rw [← HDD.out, hsx, hC])
        rw [← hC] at hs7
        clear hcell1 hcell2 hA hB hk hsx hC hml
        go_wp2
        refine wp_region_since (by kernel_rfl) (by kernel_rfl) ?_
        repeat (go_big_quiet_step (fail))
        refine wpQuiet_nil ?_
        intro X
        obtain ⟨W, hW⟩ : ∃ W, W = X.val := ⟨_, rfl⟩
        have HBW := Lib.hid (show Below w2.heap.size w2 W by rw [hW]; exact X.prop)
        rw [← hW]
        clear hW ha1 ha2 ha3 ha4 ha5
        have HOW := Lib.hid (HO.out.on (HB2.out.trans (HBW.out.mono hzz)))
        have HBLW := Lib.hid (HBL2.out.trans (HBW.out.mono (by omega)))
        have hzW : w.heap.size + 1 ≤ W.heap.size := by have := HBW.out.size; omega
        go_wp2_with fail
        refine (l8Has_dec _ D (C : Int) _ HOW.out.ints (by omega)).mono ?_
        rintro e w4 ⟨rfl, hb4⟩
        have HO4 := Lib.hid (HOW.out.on hb4)
        have HBL4 := Lib.hid (HBLW.out.trans (hb4.mono hzW))
        have hz4 : w.heap.size + 1 ≤ w4.heap.size := by have := hb4.size; omega
        clear hb4
        by_cases hin : (C : Int) ∈ D
        · have HS2 := Lib.hid (show dedF (sepX l m) (j + 1) = D by rw [HSX.out]; unfold dedS; rw [if_pos hin])
          go_wp2
          go_roundw
          case rel => exact ⟨j + 1, by have := HNN.out; omega, by go_num, .inr HT.out, by rw [HS2.out]; exact HO4.out, HBL4.out⟩
          case measure => simp [intOf] <;> omega
        · have HS2 := Lib.hid (show dedF (sepX l m) (j + 1) = D ++ [(C : Int)] by rw [HSX.out]; unfold dedS; rw [if_neg hin])
          have hdd : D.length + 1 ≤ 1000000000 := by omega
          go_wp2_with (at_builtin; refine wpList_append_int rfl (.tmp 37) (.tmp 39) 22 rfl (w.heap.size + 1) i0 Try.underlying22 hi hz0 hz1' hz2 _ D rfl HO4.out (C : Int) (by omega) (by omega) rfl hdd hz4 ?_)
          intro v5 w5 ho5 hg5 hn5
          have HO5 := Lib.hid (show OwnI (w.heap.size + 1) w5 v5 (dedF (sepX l m) (j + 1)) by rw [HS2.out]; exact ho5)
          have HB5 := Lib.hid ((HBL4.out.alloc hz4 (.cells #[.int .i64 (C : Int)] 3)).grown hg5 (by simp; omega) (fun q hq => (HO4.out.lt q hq).1))
          clear ho5 hg5 hn5
          go_wp2
          go_roundw
          case rel => exact ⟨j + 1, by have := HNN.out; omega, by go_num, .inr HT.out, HO5.out, HB5.out⟩
          case measure => simp [intOf] <;> omega
    · have hd0 : decide (((j : Int) + 1) < (l.length : Int)) = false := decide_eq_false (by omega)
      have HRE := Lib.hid (show R = sortL D by
        rw [HDD.out]
        refine HEND.out j (fun h => ?_) (fun h => HJT.out.resolve_right h)
        have := HNN.out
        have := h.1.1
        omega)
      go_wp2_with fail
      refine (hSRT.out _ (Below.refl _ _)).mono ?_
      rintro e w3 ⟨v3, rfl, ho3, hb3⟩
      have HO3 := Lib.hid ho3
      have HB3 := Lib.hid ((HBX.out _ HBL.out).2.2.2.2.trans (hb3.mono (by omega)))
      clear ho3 hb3
      go_wp2
      go_ret
      exact ⟨_, rfl, by rw [HRE.out]; exact HO3.out.mono (by omega), HB3.out⟩

end Go.Proofs.Ytcpchdnhhjhpaaa
