/- Bags that hang together; IsCliqueTree. -/
import Derived.Test.YtpifgmmmmhenmabCl
import Derived.Test.YtpifgmmmmhenmabMs
import Derived.Test.YtpifgmmmmhenmabMv
import Derived.Test.YtpifgmmmmhenmabFo
import Derived.Test.YtpifgmmmmhenmabGe
import Derived.Test.YtpifgmmmmhenmabY1
import Derived.Test.YtpifgmmmmhenmabY10
import Derived.Test.YtpifgmmmmhenmabTs
import Derived.Deep.RegionWith
namespace Go.Proofs.Ytpifgmmmmhenmab
set_option linter.unusedVariables false
set_option linter.unusedSimpArgs false
open Go.RowKit Go.Shelf

/-- Every parent is a place ahead. -/
def ParP (l m : List Int) : Prop := m.length = l.length ∧ ∀ i, 0 < i → i < l.length → 0 ≤ nth m i ∧ nth m i < i

theorem TreeP.par {l m : List Int} (h : TreeP l m) : ParP l m := ⟨h.2.1, fun i h0 hi => (h.2.2 i hi).2.2 h0⟩

set_option maxHeartbeats 2000000 in
set_option maxRecDepth 100000 in
theorem hang_is (g : Nat) (l m : List Int) (w : World) (h : PairRow g l m w) (hs : Sets7 l) (hp : ParP l m) (hl : l.length ≤ 1048576) :
    Calls Try.prog 57 #[.slice (some ⟨g, 0, none⟩) l.length l.length] w (SaysB (OnceB (begT l m) l.length) w) := by
  have HR := Lib.hid h
  have HS := Lib.hid hs
  have HP := Lib.hid hp
  clear h hs hp
  go_enter Try.func57, Try.ntmps57
  go_wp2
  go_loopw [3, 4, 5, 6, 9] (fun tv _ _ _ xi wr => ∃ i T : Nat, i ≤ l.length ∧ xi = .int .i64 i ∧ tv = .int .i64 (T : Nat) ∧ Hid (HangI l m i T) ∧ Hid (Below w.heap.size w wr)) (fun _ _ _ _ xi _ => l.length - (intOf xi).toNat)
  case atStart => exact ⟨0, 0, by omega, rfl, by first | rfl | trivial, Lib.hid (hang_zero l m), Lib.hid (Below.refl _ _)⟩
  case round =>
    obtain ⟨i, T, hil, rfl, rfl, HF, HB⟩ := hrel
    have hzr : w.heap.size ≤ wr.heap.size := HB.out.size
    by_cases hlt : i < l.length
    · have d0 : decide ((i : Int) < (l.length : Int)) = true := decide_eq_true (by omega)
      have d0' : decide (i < l.length) = true := decide_eq_true hlt
      have hR := HR.out.on HB.out
      obtain ⟨e1, e2⟩ := HS.out.at hlt
      obtain ⟨A, hA⟩ : ∃ A, A = setAt l i := ⟨_, rfl⟩
      obtain ⟨y, hy⟩ : ∃ y, y = nth m i := ⟨_, rfl⟩
      have c1 := (hR.1 i hlt).1
      have c2 := (hR.1 i hlt).2
      rw [e1, ← hA] at c1
      rw [← hy] at c2
      obtain ⟨P, hP⟩ : ∃ P, P = topN l m i := ⟨_, rfl⟩
      have hP7 : P < 128 := by rw [hP]; exact topN_lt HS.out hlt
      have hT7 := HF.out.1
      obtain ⟨Z, hZ⟩ : ∃ Z, Z = T &&& P := ⟨_, rfl⟩
      have k3 : bits .and .i64 (T : Int) (P : Int) = (Z : Int) := by rw [hZ]; exact (bits_nat T P hT7 hP7).1
      obtain ⟨T2, hT2⟩ : ∃ T2, T2 = T ||| P := ⟨_, rfl⟩
      have k4 : bits .or .i64 (T : Int) (P : Int) = (T2 : Int) := by rw [hT2]; exact (bits_nat T P hT7 hP7).2
      have HBL := Lib.hid (show Below w.heap.size w (wr.alloc (.cells #[.int .i64 A, .int .i64 y] 83)) from HB.out.alloc hzr _)
      have HY := Lib.hid (show Z ≠ 0 → ¬ OnceB (begT l m) l.length from fun hz => hang_hit HS.out hlt HF.out (by rw [← hP, ← hZ]; exact hz))
      have HG := Lib.hid (show Z = 0 → HangI l m (i + 1) T2 from fun hz => by
        have := hang_step HS.out hlt HF.out (by rw [← hP, ← hZ]; exact hz)
        rw [← hP, ← hT2] at this
        exact this)
      by_cases hi0 : i = 0
      · have d5 : decide ((0 : Int) < (i : Int)) = false := by simp; omega
        have d5' : decide (0 < i) = false := by simp; omega
        obtain rfl : A = P := by rw [hA, hP, hi0]; rfl
        clear hA hy hP hZ hT2 e1 hR hi0
        by_cases hz : Z = 0
        · have q0 : ((Z : Int) != 0) = false := by rw [bne_eq_false_iff_eq]; omega
          have HF2 := Lib.hid (HG.out hz)
          clear hz
          go_wp2
          go_roundw
          case rel => exact ⟨i + 1, T2, by omega, by go_num, rfl, HF2, HBL⟩
          case measure => simp [intOf]; omega
        · have q0 : ((Z : Int) != 0) = true := by rw [bne_iff_ne]; omega
          have HN := Lib.hid (HY.out hz)
          clear hz
          go_wp2
          go_ret
          exact SaysB.no HN.out HBL.out
      · have d5 : decide ((0 : Int) < (i : Int)) = true := by simp; omega
        have d5' : decide (0 < i) = true := by simp; omega
        obtain ⟨y1, y2⟩ := HP.out.2 i (by omega) hlt
        rw [← hy] at y1 y2
        obtain ⟨k, rfl⟩ : ∃ k : Nat, y = (k : Int) := ⟨y.toNat, by omega⟩
        have hki : k < i := by omega
        obtain ⟨f1, f2⟩ := HS.out.at (show k < l.length by omega)
        obtain ⟨B, hB⟩ : ∃ B, B = setAt l k := ⟨_, rfl⟩
        have c3 := (hR.1 k (by omega)).1
        rw [f1, ← hB] at c3
        rw [← hB] at f2
        have hg : g < wr.heap.size := hR.2
        have c4 : (wr.alloc (.cells #[.int .i64 A, .int .i64 k] 83)).cell? ⟨g, k * 2, none⟩ = some (.int .i64 B) := (((Below.refl wr.heap.size wr).alloc (Nat.le_refl _) (.cells #[.int .i64 A, .int .i64 k] 83)).cell (p := ⟨g, k * 2, none⟩) hg).trans c3
        have k5 : bits .andNot .i64 (A : Int) (B : Int) = (P : Int) := by
          rw [andNot_any A B (by rw [hA]; exact e2) f2, hP]
          unfold topN
          rw [if_neg hi0, ← hA, ← hy, Int.toNat_natCast, ← hB]
        have hkl : k < l.length := by omega
        clear hA hy hP hZ hT2 e1 hR hi0 hB f1 y1 y2
        by_cases hz : Z = 0
        · have q0 : ((Z : Int) != 0) = false := by rw [bne_eq_false_iff_eq]; omega
          have HF2 := Lib.hid (HG.out hz)
          clear hz
          go_wp2
          go_roundw
          case rel => exact ⟨i + 1, T2, by omega, by go_num, rfl, HF2, HBL⟩
          case measure => simp [intOf]; omega
        · have q0 : ((Z : Int) != 0) = true := by rw [bne_iff_ne]; omega
          have HN := Lib.hid (HY.out hz)
          clear hz
          go_wp2
          go_ret
          exact SaysB.no HN.out HBL.out
    · obtain rfl : i = l.length := by omega
      have d0 : decide ((l.length : Int) < (l.length : Int)) = false := by simp
      have d0' : decide (l.length < l.length) = false := by simp
      have HN := Lib.hid (show OnceB (begT l m) l.length from HF.out.2.1)
      go_wp2
      go_ret
      exact SaysB.yes HN.out HB.out

end Go.Proofs.Ytpifgmmmmhenmab
