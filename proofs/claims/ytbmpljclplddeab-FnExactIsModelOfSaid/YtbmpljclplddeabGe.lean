/- Walks over EqualGraphs. -/
import Derived.Test.YtbmpljclplddeabG2
import Derived.Test.YtbmpljclplddeabGl
import Derived.Deep.DeepCutAuto
namespace Go.Proofs.Ytbmpljclplddeab
set_option linter.unusedVariables false
set_option linter.unusedSimpArgs false
open Go.RowKit

theorem nth_all {l m : List Int} (hl : l.length = m.length) (h : ∀ i, i < l.length → nth l i = nth m i) : l = m := list_ext_nth hl h

set_option maxHeartbeats 1000000 in
set_option maxRecDepth 100000 in
theorem slicesEqual_any (v u : Value) (l m : List Int) (w : World) (h : Ints w v l) (h' : Ints w u m) (hl : l.length ≤ 100000000) (hm : m.length ≤ 100000000) :
    Calls Try.prog 112 #[v, u] w (SaysB (l = m) w) := by
  obtain ⟨a, cap, rfl, -, hm1⟩ := h.form
  obtain ⟨a', cap', rfl, -, hm2⟩ := h'.form
  have HI := Lib.hid h
  have HI' := Lib.hid h'
  clear h h'
  unfold maxLen at hm1 hm2
  by_cases hlm : l.length = m.length
  · have hne : ((l.length : Int) != m.length) = false := by simp [hlm]
    have HLM := Lib.hid hlm
    have hle : m.length ≤ l.length := by omega
    have hge : l.length ≤ m.length := by omega
    clear hlm
    go_enter Try.func112, Try.ntmps112
    go_wp2
    go_loopw [13] (fun i wr => ∃ j : Nat, j ≤ l.length ∧ i = .int .i64 j ∧ Below w.heap.size w wr ∧ Hid (∀ i, i < j → nth l i = nth m i)) (fun i _ => l.length - (intOf i).toNat)
    case atStart => exact ⟨0, by omega, rfl, Below.refl _ _, fun i hi => absurd hi (by omega)⟩
    case round =>
      obtain ⟨j, hj, rfl, hbel, HJ⟩ := hrel
      by_cases hlt : j < l.length
      · obtain ⟨b, off, cap1, hv, _, _, hb, hcell⟩ := HI.out.pos (by omega)
        simp only [Value.slice.injEq] at hv
        obtain ⟨rfl, -, rfl⟩ := hv
        obtain ⟨b', off', cap1', hv, _, _, hb', hcell'⟩ := HI'.out.pos (by omega)
        simp only [Value.slice.injEq] at hv
        obtain ⟨rfl, -, rfl⟩ := hv
        obtain ⟨x, hx⟩ : ∃ x, x = nth l j := ⟨_, rfl⟩
        obtain ⟨y, hy⟩ : ∃ y, y = nth m j := ⟨_, rfl⟩
        have c1 : wr.cell? ⟨b, off + j, none⟩ = some (.int .i64 x) := by rw [hx]; exact (hbel.cell (p := ⟨b, off + j, none⟩) hb).trans (hcell j hlt)
        have c2 : wr.cell? ⟨b', off' + j, none⟩ = some (.int .i64 y) := by rw [hy]; exact (hbel.cell (p := ⟨b', off' + j, none⟩) hb').trans (hcell' j (by omega))
        have hlt' : j < m.length := by omega
        have HX := Lib.hid hx
        have HY := Lib.hid hy
        clear hcell hcell' hx hy
        by_cases hxy : x = y
        · have HN : Hid (∀ i, i < j + 1 → nth l i = nth m i) := fun i hi => by
            rcases Nat.lt_or_ge i j with h | h
            · exact HJ.out i h
            · obtain rfl : i = j := by omega
              rw [← HX.out, ← HY.out]; exact hxy
          subst hxy
          go_wp2
          go_quiet (fail)
          go_wp2
          go_roundw
          case rel => exact ⟨j + 1, by omega, by go_num, below_drewN hbel _, HN.out⟩
          case measure => simp [intOf]; omega
        · have hq : (x != y) = true := by simp [hxy]
          have HNE := Lib.hid hxy
          clear hxy
          go_wp2
          go_quiet (fail)
          go_wp2
          go_ret
          exact SaysB.no (fun h => HNE.out (by rw [HX.out, HY.out, h])) (below_drewN hbel _)
      · obtain rfl : j = l.length := by omega
        go_wp2
        go_ret
        exact SaysB.yes (nth_all HLM.out HJ.out) hbel
  · have hne : ((l.length : Int) != m.length) = true := by simp; omega
    have HLM := Lib.hid hlm
    clear hlm
    go_enter Try.func112, Try.ntmps112
    go_wp2
    go_ret
    exact SaysB.no (fun h => HLM.out (by rw [h])) (Below.refl _ _)

set_option maxHeartbeats 1000000 in
theorem implEqualGraphs (n n' : Int) (v u : Value) (l m : List Int) (w : World) (h : Ints w v l) (h' : Ints w u m) (hl : l.length ≤ 100000000) (hm : m.length ≤ 100000000) :
    Calls Try.prog 67 #[.agg #[.int .i64 n, v], .agg #[.int .i64 n', u]] w (SaysB (n = n' ∧ l = m) w) := by
  obtain ⟨a, cap, rfl, -, -⟩ := h.form
  obtain ⟨a', cap', rfl, -, -⟩ := h'.form
  have HI := Lib.hid ((h.alloc (.cells #[.int .i64 n, .slice a l.length cap] 33)).alloc (.cells #[.int .i64 n', .slice a' m.length cap'] 33))
  have HI' := Lib.hid ((h'.alloc (.cells #[.int .i64 n, .slice a l.length cap] 33)).alloc (.cells #[.int .i64 n', .slice a' m.length cap'] 33))
  have HB := Lib.hid (((Below.refl _ w).alloc (Nat.le_refl _) (.cells #[.int .i64 n, .slice a l.length cap] 33)).alloc (by simp) (.cells #[.int .i64 n', .slice a' m.length cap'] 33))
  clear h h'
  by_cases hn : n = n'
  · have hq : (n == n') = true := by simp [hn]
    have HN := Lib.hid hn
    clear hn
    go_enter Try.func67, Try.ntmps67
    go_wp2_with fail
    refine (slicesEqual_any _ _ l m _ HI.out HI'.out hl hm).mono ?_
    rintro e w1 ⟨r, rfl, hr, hb⟩
    have HR := Lib.hid hr
    have HB1 := Lib.hid (HB.out.trans (hb.mono (by simp <;> omega)))
    clear hr hb
    go_wp2
    go_ret
    exact ⟨r, rfl, by rw [HR.out]; exact ⟨fun h => ⟨HN.out, h⟩, fun h => h.2⟩, HB1.out⟩
  · have hq : (n == n') = false := by simp [hn]
    have HN := Lib.hid hn
    clear hn
    go_enter Try.func67, Try.ntmps67
    go_wp2
    go_ret
    exact SaysB.no (fun h => HN.out h.1) HB.out

set_option maxHeartbeats 1000000 in
set_option maxRecDepth 100000 in
theorem specEqualGraphs (n n' : Int) (v u : Value) (l m : List Int) (w : World) (h : Ints w v l) (h' : Ints w u m) (hl : l.length ≤ 100000000) (hm : m.length ≤ 100000000) :
    Calls Try.prog 66 #[.agg #[.int .i64 n, v], .agg #[.int .i64 n', u]] w (SaysB (n = n' ∧ l = m) w) := by
  obtain ⟨a, cap, rfl, -, hm1⟩ := h.form
  obtain ⟨a', cap', rfl, -, hm2⟩ := h'.form
  have HI := Lib.hid ((h.alloc (.cells #[.int .i64 n, .slice a l.length cap] 33)).alloc (.cells #[.int .i64 n', .slice a' m.length cap'] 33))
  have HI' := Lib.hid ((h'.alloc (.cells #[.int .i64 n, .slice a l.length cap] 33)).alloc (.cells #[.int .i64 n', .slice a' m.length cap'] 33))
  have B1 := Lib.hid ((BoxG.new w 33 n (.slice a l.length cap) ⟨_, _, _, rfl⟩).keep (grown_alloc _ (.cells #[.int .i64 n', .slice a' m.length cap'] 33) none) (by simp))
  have B2 := Lib.hid (BoxG.new (w.alloc (.cells #[.int .i64 n, .slice a l.length cap] 33)) 33 n' (.slice a' m.length cap') ⟨_, _, _, rfl⟩)
  have HB := Lib.hid (((Below.refl _ w).alloc (Nat.le_refl _) (.cells #[.int .i64 n, .slice a l.length cap] 33)).alloc (by simp) (.cells #[.int .i64 n', .slice a' m.length cap'] 33))
  clear h h'
  unfold maxLen at hm1 hm2
  by_cases hn : n = n'
  · have hq : (n != n') = false := by simp [hn]
    have HN := Lib.hid hn
    clear hn
    by_cases hlm : l.length = m.length
    · have hne : ((l.length : Int) != m.length) = false := by simp [hlm]
      have HLM := Lib.hid hlm
      have hle : m.length ≤ l.length := by omega
      have hge : l.length ≤ m.length := by omega
      clear hlm
      obtain ⟨W, hW⟩ : ∃ W, W = (w.alloc (.cells #[.int .i64 n, .slice a l.length cap] 33)).alloc (.cells #[.int .i64 n', .slice a' m.length cap'] 33) := ⟨_, rfl⟩
      rw [← hW] at HI HI' B1 B2 HB
      rw [World.size_alloc] at B2
      obtain ⟨p0, p1, pz⟩ := B1.out
      obtain ⟨q0, q1, qz⟩ := B2.out
      go_enter Try.func66, Try.ntmps66
      go_wp2_with fail
      rw [← hW]
      clear p0 p1 q0 q1
      go_loopw [5] (fun i wr => ∃ j : Nat, j ≤ l.length ∧ i = .int .i64 j ∧ Below W.heap.size W wr ∧ Hid (∀ i, i < j → nth l i = nth m i)) (fun i _ => l.length - (intOf i).toNat)
      case atStart => exact ⟨0, by omega, rfl, Below.refl _ _, fun i hi => absurd hi (by omega)⟩
      case round =>
        clear hW
        obtain ⟨j, hj, rfl, hbel, HJ⟩ := hrel
        obtain ⟨p0, p1, -⟩ := B1.out.keep (below_grown hbel) (by simp)
        obtain ⟨q0, q1, -⟩ := B2.out.keep (below_grown hbel) (by simp)
        have HBW := Lib.hid (HB.out.trans (hbel.mono HB.out.size))
        by_cases hlt : j < l.length
        · obtain ⟨b, off, cap1, hv, _, _, hb, hcell⟩ := HI.out.pos (by omega)
          simp only [Value.slice.injEq] at hv
          obtain ⟨rfl, -, rfl⟩ := hv
          obtain ⟨b', off', cap1', hv, _, _, hb', hcell'⟩ := HI'.out.pos (by omega)
          simp only [Value.slice.injEq] at hv
          obtain ⟨rfl, -, rfl⟩ := hv
          obtain ⟨x, hx⟩ : ∃ x, x = nth l j := ⟨_, rfl⟩
          obtain ⟨y, hy⟩ : ∃ y, y = nth m j := ⟨_, rfl⟩
          have c1 : wr.cell? ⟨b, off + j, none⟩ = some (.int .i64 x) := by rw [hx]; exact (hbel.cell (p := ⟨b, off + j, none⟩) hb).trans (hcell j hlt)
          have c2 : wr.cell? ⟨b', off' + j, none⟩ = some (.int .i64 y) := by rw [hy]; exact (hbel.cell (p := ⟨b', off' + j, none⟩) hb').trans (hcell' j (by omega))
          have hlt' : j < m.length := by omega
          have HX := Lib.hid hx
          have HY := Lib.hid hy
          clear hcell hcell' hx hy
          by_cases hxy : x = y
          · have HNX : Hid (∀ i, i < j + 1 → nth l i = nth m i) := fun i hi => by
              rcases Nat.lt_or_ge i j with h | h
              · exact HJ.out i h
              · obtain rfl : i = j := by omega
                rw [← HX.out, ← HY.out]; exact hxy
            subst hxy
            go_wp2
            go_quiet (fail)
            go_wp2
            go_roundw
            case rel => exact ⟨j + 1, by omega, by go_num, below_drewN hbel _, HNX.out⟩
            case measure => simp [intOf]; omega
          · have hq : (x != y) = true := by simp [hxy]
            have HNE := Lib.hid hxy
            clear hxy
            go_wp2
            go_quiet (fail)
            go_wp2
            go_ret
            exact SaysB.no (fun h => HNE.out (by rw [HX.out, HY.out, h.2])) (below_drewN HBW.out _)
        · obtain rfl : j = l.length := by omega
          go_wp2
          go_ret
          exact SaysB.yes ⟨HN.out, nth_all HLM.out HJ.out⟩ HBW.out
    · have hne : ((l.length : Int) != m.length) = true := by simp; omega
      have HLM := Lib.hid hlm
      clear hlm
      go_enter Try.func66, Try.ntmps66
      go_wp2
      go_ret
      exact SaysB.no (fun h => HLM.out (by rw [h.2])) HB.out
  · have hq : (n != n') = true := by simp [hn]
    have HN := Lib.hid hn
    clear hn
    go_enter Try.func66, Try.ntmps66
    go_wp2
    go_ret
    exact SaysB.no (fun h => HN.out h.1) HB.out

end Go.Proofs.Ytbmpljclplddeab
