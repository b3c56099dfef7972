/- spec.l6Reverse. -/
import Derived.Test.YtpifgmmmmhenmabGl
import Derived.Test.YtpifgmmmmhenmabGw
namespace Go.Proofs.Ytpifgmmmmhenmab
set_option linter.unusedVariables false
set_option linter.unusedSimpArgs false
open Go.RowKit

theorem OwnI.none0R {B : Nat} {w : World} (hB : B ≤ w.heap.size) : OwnI B (w.alloc (.cells #[] 3)) (.slice (some ⟨w.heap.size, 0, none⟩) 0 0) [] :=
  ⟨inI64_nil, by simp [iv], .inr ⟨w.heap.size, 0, #[], rfl, hB, by show (w.heap.push _)[w.heap.size]? = _; rw [Array.getElem?_push_size], by simp, by unfold maxLen; omega, by simp, by simp [iv]⟩⟩

def revT (l : List Int) (i : Nat) : List Int := (l.reverse).take i

theorem revT_succ (l : List Int) (i : Nat) (h : i < l.length) : revT l (i + 1) = revT l i ++ [nth l (l.length - 1 - i)] := by
  unfold revT
  have hr : i < l.reverse.length := by simpa using h
  have h1 : l.reverse[i]'hr = nth l (l.length - 1 - i) := by
    unfold nth List.getD
    rw [List.getElem_reverse, List.getElem?_eq_getElem (by omega)]
    rfl
  rw [List.take_succ_eq_append_getElem hr, h1]

set_option maxHeartbeats 4000000 in
set_option maxRecDepth 100000 in
theorem specRev9 (v : Value) (l : List Int) (w : World) (h : Ints w v l) (hl : l.length ≤ 1048576) :
    Calls Try.prog 40 #[v] w (GetsI w.heap.size w l.reverse) := by
  obtain ⟨i0, hi, hz0, hz1, hz2⟩ := info_parts infoInt
  obtain ⟨a, cap, rfl, -, -⟩ := h.form
  have HI := Lib.hid h
  have HO0 := Lib.hid (OwnI.none0R (B := w.heap.size) (w := w) (Nat.le_refl _))
  have hb0 : Below w.heap.size w (w.alloc (.cells #[] 3)) := (Below.refl _ w).alloc (Nat.le_refl _) _
  clear h
  go_enter Try.func40, Try.ntmps40
  go_wp2
  go_loopw [3, 4] (fun s x wr => ∃ i : Nat, i ≤ l.length ∧ x = .int .i64 ((l.length : Int) - 1 - i) ∧ Hid (OwnI w.heap.size wr s (revT l i)) ∧ Below w.heap.size w wr) (fun _ x _ => (intOf x + 1).toNat)
  case atStart => exact ⟨0, by omega, by go_num, HO0.out, hb0⟩
  case round =>
    clear HO0 hb0
    obtain ⟨i, hi', rfl, HO, hbel⟩ := hrel
    have HBL := Lib.hid hbel
    have hz : w.heap.size ≤ wr.heap.size := hbel.size
    clear hbel
    by_cases hlt : i < l.length
    · obtain ⟨b2, off2, capl', hv, hc2, hmx2, hbk2, hcell2⟩ := HI.out.pos (by omega)
      simp only [Value.slice.injEq] at hv
      obtain ⟨rfl, -, rfl⟩ := hv
      obtain ⟨y, hy⟩ : ∃ y, y = nth l (l.length - 1 - i) := ⟨_, rfl⟩
      obtain ⟨k, hk⟩ : ∃ k, k = l.length - 1 - i := ⟨_, rfl⟩
      have hk2 : (l.length : Int) - 1 - i = (k : Int) := by omega
      have hkl : k < l.length := by omega
      have c0 := (HBL.out.cell (p := ⟨b2, off2 + k, none⟩) hbk2).trans (hcell2 k hkl)
      have hyb : -9223372036854775808 ≤ y ∧ y ≤ 9223372036854775807 := by
        rw [hy]
        exact HI.out.1 _ (by unfold nth List.getD; rw [List.getElem?_eq_getElem (by omega)]; exact List.getElem_mem _)
      rw [← hk] at hy
      rw [← hy] at c0
      have HS := Lib.hid (show revT l (i + 1) = revT l i ++ [y] by rw [revT_succ l i hlt, hy, hk])
      have hrl : (revT l i).length + 1 ≤ 1000000000 := by unfold revT; rw [List.length_take]; omega
      unfold maxLen at hmx2
      rw [hk2]
      clear hcell2 hy hk
      go_wp2_with (at_builtin; refine wpList_append_int rfl (.tmp 13) (.tmp 18) 22 rfl w.heap.size i0 Try.underlying22 hi hz0 hz1 hz2 _ (revT l i) rfl HO.out y hyb.1 hyb.2 rfl hrl hz ?_)
      intro v2 w2 ho2 hg2 hne2
      have HO2 := Lib.hid (show OwnI w.heap.size w2 v2 (revT l (i + 1)) by rw [HS.out]; exact ho2)
      have HB2 := Lib.hid ((HBL.out.alloc hz (.cells #[.int .i64 y] 3)).grown hg2 (by simp; omega) (fun q hq => (HO.out.lt q hq).1))
      clear ho2 hg2 hne2 c0
      go_wp2
      go_roundw
      case rel => exact ⟨i + 1, by omega, by go_num, HO2.out, HB2.out⟩
      case measure => simp [intOf] <;> omega
    · obtain rfl : i = l.length := by omega
      have HF := Lib.hid (show revT l l.length = l.reverse by unfold revT; rw [List.take_of_length_le (by simp)])
      go_wp2
      go_ret
      exact ⟨_, rfl, by rw [← HF.out]; exact HO.out, HBL.out⟩

end Go.Proofs.Ytpifgmmmmhenmab
