/- Walks over EqualGraphs. -/
import Derived.Test.YtpifgmmmmhenmabG2
import Derived.Test.YtpifgmmmmhenmabGl
import Derived.Deep.DeepCutAuto
namespace Go.Proofs.Ytpifgmmmmhenmab
set_option linter.unusedVariables false
set_option linter.unusedSimpArgs false
open Go.RowKit

theorem nth_all {l m : List Int} (hl : l.length = m.length) (h : ∀ i, i < l.length → nth l i = nth m i) : l = m := list_ext_nth hl h

set_option maxHeartbeats 1000000 in
set_option maxRecDepth 100000 in
theorem slicesEqual_any (v u : Value) (l m : List Int) (w : World) (h : Ints w v l) (h' : Ints w u m) (hl : l.length ≤ 100000000) (hm : m.length ≤ 100000000) :
    Calls Try.prog 51 #[v, u] w (SaysB (l = m) w) := by
  obtain ⟨a, cap, rfl, -, hm1⟩ := h.form
  obtain ⟨a', cap', rfl, -, hm2⟩ := h'.form
  have HI := Lib.hid h
  have HI' := Lib.hid h'
  clear h h'
  unfold maxLen at hm1 hm2
  by_cases hlm : l.length = m.length
  · have hne : ((l.length : Int) != m.length) = false := by simp [hlm]
    have HLM := Lib.hid hlm
    have hle : m.length ≤ l.length := by omega
    have hge : l.length ≤ m.length := by omega
    clear hlm
    go_enter Try.func51, Try.ntmps51
    go_wp2
    go_loopw [13] (fun i wr => ∃ j : Nat, j ≤ l.length ∧ i = .int .i64 j ∧ Below w.heap.size w wr ∧ Hid (∀ i, i < j → nth l i = nth m i)) (fun i _ => l.length - (intOf i).toNat)
    case atStart => exact ⟨0, by omega, rfl, Below.refl _ _, fun i hi => absurd hi (by omega)⟩
    case round =>
      obtain ⟨j, hj, rfl, hbel, HJ⟩ := hrel
      by_cases hlt : j < l.length
      · obtain ⟨b, off, cap1, hv, _, _, hb, hcell⟩ := HI.out.pos (by omega)
        simp only [Value.slice.injEq] at hv
        obtain ⟨rfl, -, rfl⟩ := hv
        obtain ⟨b', off', cap1', hv, _, _, hb', hcell'⟩ := HI'.out.pos (by omega)
        simp only [Value.slice.injEq] at hv
        obtain ⟨rfl, -, rfl⟩ := hv
        obtain ⟨x, hx⟩ : ∃ x, x = nth l j := ⟨_, rfl⟩
        obtain ⟨y, hy⟩ : ∃ y, y = nth m j := ⟨_, rfl⟩
        have c1 : wr.cell? ⟨b, off + j, none⟩ = some (.int .i64 x) := by rw [hx]; exact (hbel.cell (p := ⟨b, off + j, none⟩) hb).trans (hcell j hlt)
        have c2 : wr.cell? ⟨b', off' + j, none⟩ = some (.int .i64 y) := by rw [hy]; exact (hbel.cell (p := ⟨b', off' + j, none⟩) hb').trans (hcell' j (by omega))
        have hlt' : j < m.length := by omega
        have HX := Lib.hid hx
        have HY := Lib.hid hy
        clear hcell hcell' hx hy
        by_cases hxy : x = y
        · have HN : Hid (∀ i, i < j + 1 → nth l i = nth m i) := fun i hi => by
            rcases Nat.lt_or_ge i j with h | h
            · exact HJ.out i h
            · obtain rfl : i = j := by omega
              rw [← HX.out, ← HY.out]; exact hxy
          subst hxy
          go_wp2
          go_quiet (fail)
          go_wp2
          go_roundw
          case rel => exact ⟨j + 1, by omega, by go_num, below_drewN hbel _, HN.out⟩
          case measure => simp [intOf]; omega
        · have hq : (x != y) = true := by simp [hxy]
          have HNE := Lib.hid hxy
          clear hxy
          go_wp2
          go_quiet (fail)
          go_wp2
          go_ret
          exact SaysB.no (fun h => HNE.out (by rw [HX.out, HY.out, h])) (below_drewN hbel _)
      · obtain rfl : j = l.length := by omega
        go_wp2
        go_ret
        exact SaysB.yes (nth_all HLM.out HJ.out) hbel
  · have hne : ((l.length : Int) != m.length) = true := by simp; omega
    have HLM := Lib.hid hlm
    clear hlm
    go_enter Try.func51, Try.ntmps51
    go_wp2
    go_ret
    exact SaysB.no (fun h => HLM.out (by rw [h])) (Below.refl _ _)

end Go.Proofs.Ytpifgmmmmhenmab
