/- The children of a node of a tree of modules. -/
import Derived.Test.YtbmpljclplddeaaBx
import Derived.Test.YtbmpljclplddeaaH3
namespace Go.Proofs.Ytbmpljclplddeaa
set_option linter.unusedVariables false
set_option linter.unusedSimpArgs false
open Go.RowKit

def childL (i : Int) (p : List Int) : Nat → List Int
  | 0 => []
  | j + 1 => if nth p j = i then childL i p j ++ [(j : Int)] else childL i p j

theorem childL_len (i : Int) (p : List Int) (j : Nat) : (childL i p j).length ≤ j := by
  induction j with
  | zero => simp [childL]
  | succ j ih =>
    rw [childL]
    split
    · rw [List.length_append]; simp; omega
    · omega

set_option maxHeartbeats 1000000 in
set_option maxRecDepth 100000 in
theorem implChildren (v0 v1 v2 : Value) (l0 l1 l2 : List Int) (i : Int) (w : World) (h0 : Ints w v0 l0) (h1 : Ints w v1 l1) (h2 : Ints w v2 l2) (hl2 : l2.length ≤ 1048576) :
    Calls Try.prog 48 #[.agg #[v0, v1, v2], .int .i64 i] w (GetsI w.heap.size w (childL i l2 l2.length)) := by
  obtain ⟨i0, hi, hz0, hz1, hz2⟩ := info_parts infoInt
  obtain ⟨a0, p0, rfl, -, -⟩ := h0.form
  obtain ⟨a1, p1, rfl, -, -⟩ := h1.form
  obtain ⟨a2, p2, rfl, -, -⟩ := h2.form
  have H2 := Lib.hid h2
  clear h0 h1 h2
  have F0 := Lib.hid (show Below w.heap.size w (w.alloc (.cells #[.slice a0 l0.length p0, .slice a1 l1.length p1, .slice a2 l2.length p2] 34)) from (Below.refl _ w).alloc (Nat.le_refl _) _)
  have A0 := Lib.hid (show Box w.heap.size [.slice a0 l0.length p0, .slice a1 l1.length p1, .slice a2 l2.length p2] (w.alloc (.cells #[.slice a0 l0.length p0, .slice a1 l1.length p1, .slice a2 l2.length p2] 34)) from Box.new w _ _)
  go_enter Try.func48, Try.ntmps48
  go_wp2
  go_loopw [5, 11] (fun v i' wr => ∃ j : Nat, j ≤ l2.length ∧ i' = .int .i64 j ∧ OwnI (w.heap.size + 1) wr v (childL i l2 j) ∧ Below (w.heap.size + 1) (w.alloc (.cells #[.slice a0 l0.length p0, .slice a1 l1.length p1, .slice a2 l2.length p2] 34)) wr) (fun _ i' _ => l2.length - (intOf i').toNat)
  case atStart => exact ⟨0, by omega, rfl, ⟨inI64_nil, ⟨rfl, .inl ⟨rfl, rfl⟩⟩⟩, Below.refl _ _⟩
  case round =>
    obtain ⟨j, hj, rfl, ho, hbel⟩ := hrel
    have HO := Lib.hid ho
    have hsz : w.heap.size + 1 ≤ wr.heap.size := by have := hbel.size; simpa using this
    have hB := F0.out.trans (hbel.mono (by omega))
    have HF := Lib.hid hB
    have x0 : wr.cell? ⟨w.heap.size, 0, none⟩ = some (.slice a0 l0.length p0) := (A0.out.on (hbel.mono (by simp))).1 0 _ rfl
    have x1 : wr.cell? ⟨w.heap.size, 1, none⟩ = some (.slice a1 l1.length p1) := (A0.out.on (hbel.mono (by simp))).1 1 _ rfl
    have x2 : wr.cell? ⟨w.heap.size, 2, none⟩ = some (.slice a2 l2.length p2) := (A0.out.on (hbel.mono (by simp))).1 2 _ rfl
    have HL := Lib.hid (childL_len i l2 j)
    clear ho
    by_cases hlt : j < l2.length
    · obtain ⟨b, off, cap1, hv, _, _, hb, hcell⟩ := (H2.out.on hB).pos (by omega)
      simp only [Value.slice.injEq] at hv
      obtain ⟨rfl, -, rfl⟩ := hv
      obtain ⟨x, hx⟩ : ∃ x, x = nth l2 j := ⟨_, rfl⟩
      have c1 := hcell j hlt
      rw [← hx] at c1
      have HX := Lib.hid hx
      clear hcell hx hB
      by_cases hxi : x = i
      · have d1 : (x == i) = true := by simp [hxi]
        have HT := Lib.hid (show childL i l2 (j + 1) = childL i l2 j ++ [(j : Int)] by rw [childL, ← HX.out, if_pos hxi])
        clear hxi
        have HB := Lib.hid hbel
        clear hbel
        go_wp2_with (at_builtin; refine wpList_append_int rfl (.tmp 19) (.tmp 21) 22 rfl (w.heap.size + 1) i0 Try.underlying22 hi hz0 hz1 hz2 _ _ rfl HO.out j (by omega) (by omega) rfl (by have := HL.out; omega) hsz ?_)
        intro v' w2 ho2 hg2 hv2
        have HO2 := Lib.hid ho2
        have HB2 := Lib.hid ((HB.out.alloc hsz (.cells #[.int .i64 (j : Int)] 3)).grown hg2 (by simp; omega) (fun k hk => (HO.out.lt k hk).1))
        clear ho2 hg2
        go_wp2
        go_roundw
        case rel => exact ⟨j + 1, by omega, by go_num, by rw [HT.out]; exact HO2.out, HB2.out⟩
        case measure => simp [intOf]; omega
      · have d1 : (x == i) = false := by simp [hxi]
        have HT := Lib.hid (show childL i l2 (j + 1) = childL i l2 j by rw [childL, ← HX.out, if_neg hxi])
        clear hxi
        go_wp2
        go_roundw
        case rel => exact ⟨j + 1, by omega, by go_num, by rw [HT.out]; exact HO.out, hbel⟩
        case measure => simp [intOf]; omega
    · obtain rfl : j = l2.length := by omega
      go_wp2
      go_ret
      exact ⟨_, rfl, HO.out.mono (by omega), HF.out⟩

set_option maxHeartbeats 1000000 in
set_option maxRecDepth 100000 in
theorem specChildren (v0 v1 v2 : Value) (l0 l1 l2 : List Int) (i : Int) (w : World) (h0 : Ints w v0 l0) (h1 : Ints w v1 l1) (h2 : Ints w v2 l2) (hl2 : l2.length ≤ 1048576) :
    Calls Try.prog 47 #[.agg #[v0, v1, v2], .int .i64 i] w (GetsI w.heap.size w (childL i l2 l2.length)) := by
  obtain ⟨i0, hi, hz0, hz1, hz2⟩ := info_parts infoInt
  obtain ⟨a0, p0, rfl, -, -⟩ := h0.form
  obtain ⟨a1, p1, rfl, -, -⟩ := h1.form
  obtain ⟨a2, p2, rfl, -, -⟩ := h2.form
  have H2 := Lib.hid h2
  clear h0 h1 h2
  have F0 := Lib.hid (show Below w.heap.size w (w.alloc (.cells #[.slice a0 l0.length p0, .slice a1 l1.length p1, .slice a2 l2.length p2] 34)) from (Below.refl _ w).alloc (Nat.le_refl _) _)
  have A0 := Lib.hid (show Box w.heap.size [.slice a0 l0.length p0, .slice a1 l1.length p1, .slice a2 l2.length p2] (w.alloc (.cells #[.slice a0 l0.length p0, .slice a1 l1.length p1, .slice a2 l2.length p2] 34)) from Box.new w _ _)
  go_enter Try.func47, Try.ntmps47
  go_wp2
  go_loopw [5, 6] (fun v i' wr => ∃ j : Nat, j ≤ l2.length ∧ i' = .int .i64 j ∧ OwnI (w.heap.size + 1) wr v (childL i l2 j) ∧ Below (w.heap.size + 1) (w.alloc (.cells #[.slice a0 l0.length p0, .slice a1 l1.length p1, .slice a2 l2.length p2] 34)) wr) (fun _ i' _ => l2.length - (intOf i').toNat)
  case atStart => exact ⟨0, by omega, rfl, ⟨inI64_nil, by simpa [iv, childL] using World.ownsRow_lit (w.alloc (.cells #[.slice a0 l0.length p0, .slice a1 l1.length p1, .slice a2 l2.length p2] 34)) #[] 0 (by simp) (by simp [maxLen]) rfl⟩, (Below.refl _ _).alloc (by simp) _⟩
  case round =>
    obtain ⟨j, hj, rfl, ho, hbel⟩ := hrel
    have HO := Lib.hid ho
    have hsz : w.heap.size + 1 ≤ wr.heap.size := by have := hbel.size; simpa using this
    have hB := F0.out.trans (hbel.mono (by omega))
    have HF := Lib.hid hB
    have x0 : wr.cell? ⟨w.heap.size, 0, none⟩ = some (.slice a0 l0.length p0) := (A0.out.on (hbel.mono (by simp))).1 0 _ rfl
    have x1 : wr.cell? ⟨w.heap.size, 1, none⟩ = some (.slice a1 l1.length p1) := (A0.out.on (hbel.mono (by simp))).1 1 _ rfl
    have x2 : wr.cell? ⟨w.heap.size, 2, none⟩ = some (.slice a2 l2.length p2) := (A0.out.on (hbel.mono (by simp))).1 2 _ rfl
    have HL := Lib.hid (childL_len i l2 j)
    clear ho
    by_cases hlt : j < l2.length
    · obtain ⟨b, off, cap1, hv, _, _, hb, hcell⟩ := (H2.out.on hB).pos (by omega)
      simp only [Value.slice.injEq] at hv
      obtain ⟨rfl, -, rfl⟩ := hv
      obtain ⟨x, hx⟩ : ∃ x, x = nth l2 j := ⟨_, rfl⟩
      have c1 := hcell j hlt
      rw [← hx] at c1
      have HX := Lib.hid hx
      clear hcell hx hB
      by_cases hxi : x = i
      · have d1 : (x == i) = true := by simp [hxi]
        have HT := Lib.hid (show childL i l2 (j + 1) = childL i l2 j ++ [(j : Int)] by rw [childL, ← HX.out, if_pos hxi])
        clear hxi
        have HB := Lib.hid hbel
        clear hbel
        go_wp2_with (at_builtin; refine wpList_append_int rfl (.tmp 22) (.tmp 24) 22 rfl (w.heap.size + 1) i0 Try.underlying22 hi hz0 hz1 hz2 _ _ rfl HO.out j (by omega) (by omega) rfl (by have := HL.out; omega) hsz ?_)
        intro v' w2 ho2 hg2 hv2
        have HO2 := Lib.hid ho2
        have HB2 := Lib.hid ((HB.out.alloc hsz (.cells #[.int .i64 (j : Int)] 3)).grown hg2 (by simp; omega) (fun k hk => (HO.out.lt k hk).1))
        clear ho2 hg2
        go_wp2
        go_roundw
        case rel => exact ⟨j + 1, by omega, by go_num, by rw [HT.out]; exact HO2.out, HB2.out⟩
        case measure => simp [intOf]; omega
      · have d1 : (x == i) = false := by simp [hxi]
        have HT := Lib.hid (show childL i l2 (j + 1) = childL i l2 j by rw [childL, ← HX.out, if_neg hxi])
        clear hxi
        go_wp2
        go_roundw
        case rel => exact ⟨j + 1, by omega, by go_num, by rw [HT.out]; exact HO.out, hbel⟩
        case measure => simp [intOf]; omega
    · obtain rfl : j = l2.length := by omega
      go_wp2
      go_ret
      exact ⟨_, rfl, HO.out.mono (by omega), HF.out⟩

end Go.Proofs.Ytbmpljclplddeaa
