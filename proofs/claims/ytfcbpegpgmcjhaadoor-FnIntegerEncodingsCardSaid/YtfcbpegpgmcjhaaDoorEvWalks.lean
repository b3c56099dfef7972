/- Walks over EncodeVarint. -/
import Derived.Test.YtfcbpegpgmcjhaaDoorDfWalks
import Derived.Test.YtfcbpegpgmcjhaaDoorEvPlain
import Derived.Test.YtfcbpegpgmcjhaaDoorKit
namespace Go.Proofs.YtfcbpegpgmcjhaaDoor
open Go.RowKit

theorem infoByte : (Tryd.prog.info? 5).map (fun i => (i.zero, i.size, i.bytes)) = some (some (.int .u8 0), 1, 1) := by kernel_rfl

theorem implEV_bad (n : Int) (w : World) (h : n < 0 ∨ 562949953421311 < n) :
    Calls Tryd.prog 9 #[.int .i64 n] w fun e w' => e = .returned (.string ⟨#[]⟩) ∧ w = w' := by
  by_cases h1 : n < 0
  · go_enter Tryd.func9, Tryd.ntmps9
    go_wp2
    go_ret
    exact ⟨rfl, rfl⟩
  · have h2 : 562949953421311 < n := by omega
    go_enter Tryd.func9, Tryd.ntmps9
    go_wp2
    go_ret
    exact ⟨rfl, rfl⟩

set_option maxHeartbeats 1000000 in
set_option maxRecDepth 100000 in
theorem implEV_good (n : Nat) (w : World) (hn : (n : Int) ≤ 562949953421311) :
    Calls Tryd.prog 9 #[.int .i64 n] w fun e w' => e = .returned (.string ⟨(vint 6 n).toArray⟩) ∧ Below w.heap.size w w' := by
  obtain ⟨i0, hi, hz0, hz1, hz2⟩ := info_parts infoByte
  obtain ⟨L, hL⟩ : ∃ L, L = vint 6 n := ⟨_, rfl⟩
  have hlen : L.length ≤ 7 := by rw [hL]; exact vint_length 6 n
  have HL := Lib.hid hL
  clear hL
  have hmk : ∀ w : World, (Instr.makeSlice 22 (.int .i64 0) (.int .i64 7)).run Tryd.prog w = .ok (.slice (some ⟨w.heap.size, 0, none⟩) 0 7) (w.alloc (.cells #[.int .u8 0, .int .u8 0, .int .u8 0, .int .u8 0, .int .u8 0, .int .u8 0, .int .u8 0] 5)) := fun _ => by kernel_rfl
  have hd1 : decide ((n : Int) < 0) = false := by simp
  have hd2 : decide (562949953421311 < (n : Int)) = false := by simp; omega
  go_enter Tryd.func9, Tryd.ntmps9
  go_wp2
  go_loopw [0, 3] (fun a v wr => ∃ (m f : Nat) (p : List UInt8), Hid (L = p ++ vint f m) ∧ m < vle f ∧ (m : Int) ≤ 562949953421311 ∧ a = .int .i64 m ∧ wr.ownsRow w.heap.size 5 1 v p.length (Lib.byteCells p) ∧ Below w.heap.size w wr)
    (fun a _ _ => (intOf a).toNat)
  case atStart => exact ⟨n, 6, [], HL, vle_6 n (by omega), by omega, rfl, World.ownsRow_made w _ 7 (Nat.le_refl _) (by simp [maxLen]) rfl, (Below.refl _ _).alloc (Nat.le_refl _) _⟩
  case round =>
    obtain ⟨m, f, p, HP, hlt, hm, rfl, hown, hbel⟩ := hrel
    have hpl : p.length ≤ 7 := by have := HP.out; rw [this] at hlen; simp at hlen; omega
    have hsz := hbel.size
    by_cases h : m < 128
    · have HE := Lib.hid (snoc_end L p f m HP.out h)
      go_wp2_with (at_builtin; refine wpList_append_byte rfl (.tmp 22) (.tmp 25) 22 rfl w.heap.size 5 i0 (.int .u8 0) Tryd.underlying22 hi hz0 hz1 hz2 rfl _ p rfl hown _ (by omega) (by omega) rfl (by omega) hsz hbel ?_)
      intro v1 w1 q hq hown1 hbel1 hv1
      obtain ⟨g, cap, rfl, hcv⟩ := own_string (P := Tryd.prog) (src := 22) (dst := 9) hown1 hv1 Tryd.underlying22 Tryd.underlying5 Tryd.underlying9
      go_wp2
      go_ret
      exact ⟨by rw [← HL.out, HE.out, hq.out]; rfl, hbel1⟩
    · obtain ⟨f, rfl⟩ : ∃ f', f = f' + 1 := ⟨f - 1, by cases f with | zero => exact absurd (vle_0 m hlt) h | succ f => rfl⟩
      have HE := Lib.hid (snoc_split L p f m HP.out (by omega))
      have hdv := vle_step f m hlt
      have e1 := and127 (m : Int) (by omega) hm
      have e2 := or128 ((m : Int) % 128) (by omega) (by omega)
      go_wp2_with (at_builtin; refine wpList_append_byte rfl (.tmp 15) (.tmp 20) 22 rfl w.heap.size 5 i0 (.int .u8 0) Tryd.underlying22 hi hz0 hz1 hz2 rfl _ p rfl hown (128 + (m : Int) % 128) (by omega) (by omega) rfl (by omega) hsz hbel ?_)
      intro v1 w1 q hq hown1 hbel1 hv1
      go_wp2
      go_roundw
      case rel => exact ⟨m / 128, f, q, by rw [hq.out]; exact HE, hdv, by omega, by go_num, hown1, hbel1⟩
      case measure => simp [intOf]; omega

end Go.Proofs.YtfcbpegpgmcjhaaDoor
