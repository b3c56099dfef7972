/- Walks over EncodeFixed. -/
import Derived.Test.YtfcbpegpgmcjhaaDoorEvWalks
import Derived.Test.YtfcbpegpgmcjhaaDoorEfPlain
namespace Go.Proofs.YtfcbpegpgmcjhaaDoor
open Go.RowKit

theorem implEF_bad (n k : Int) (w : World) (h : k < 1 ∨ 7 < k ∨ n < 0) :
    Calls Tryd.prog 12 #[.int .i64 n, .int .i64 k] w fun e w' => e = .returned (.string ⟨#[]⟩) ∧ w = w' := by
  by_cases h1 : k < 1
  · go_enter Tryd.func12, Tryd.ntmps12
    go_wp2
    go_ret
    exact ⟨rfl, rfl⟩
  · by_cases h2 : 7 < k
    · go_enter Tryd.func12, Tryd.ntmps12
      go_wp2
      go_ret
      exact ⟨rfl, rfl⟩
    · have h3 : n < 0 := by omega
      go_enter Tryd.func12, Tryd.ntmps12
      go_wp2
      go_ret
      exact ⟨rfl, rfl⟩

set_option maxHeartbeats 1000000 in
set_option maxRecDepth 100000 in
theorem implEF_over (n k : Nat) (w : World) (h1 : 1 ≤ k) (h7 : k ≤ 7) (hov : ((n : Int) / 2 ^ (8 * k) != 0) = true) :
    Calls Tryd.prog 12 #[.int .i64 n, .int .i64 k] w fun e w' => e = .returned (.string ⟨#[]⟩) ∧ w = w' := by
  have hd1 : decide ((k : Int) < 1) = false := by simp; omega
  have hd2 : decide (7 < (k : Int)) = false := by simp; omega
  have hd3 : decide ((n : Int) < 0) = false := by simp
  go_enter Tryd.func12, Tryd.ntmps12
  go_wp2_with fail
  go_ret
  exact ⟨rfl, rfl⟩

set_option maxHeartbeats 1000000 in
set_option maxRecDepth 100000 in
theorem implEF_good (n k : Nat) (w : World) (h1 : 1 ≤ k) (h7 : k ≤ 7) (hfit : ((n : Int) / 2 ^ (8 * k) != 0) = false) :
    Calls Tryd.prog 12 #[.int .i64 n, .int .i64 k] w fun e w' => e = .returned (.string ⟨(lowB n k).toArray⟩) ∧ Below w.heap.size w w' := by
  obtain ⟨i0, hi, hz0, hz1, hz2⟩ := info_parts infoByte
  have hd1 : decide ((k : Int) < 1) = false := by simp; omega
  have hd2 : decide (7 < (k : Int)) = false := by simp; omega
  have hd3 : decide ((n : Int) < 0) = false := by simp
  go_enter Tryd.func12, Tryd.ntmps12
  go_wp2_with (at_make; refine wpList_make_full _ rfl _ _ 22 rfl w.heap.size 5 i0 (.int .u8 0) 1 Tryd.underlying22 hi hz0 hz1 .i64 .i64 _ _ k rfl rfl rfl rfl ?c1 ?c2 ?c3 ?_)
  case c1 => rw [hz2]; omega
  case c2 => unfold maxLen; omega
  case c3 => exact Nat.le_refl _
  intro w1 hown hgrow
  have hbel : Below w.heap.size w w1 := (Below.refl _ _).grown hgrow (Nat.le_refl _) (fun _ h => by cases h)
  rw [toList_madeCells_one, cells_zero, ← rowB_0 n k] at hown
  clear hgrow
  go_wp2
  go_loopw [6, 28] (fun _ c wr => ∃ i : Nat, i ≤ k ∧ c = .int .i64 i ∧ wr.ownsRow w.heap.size 5 1 (.slice (some ⟨w.heap.size, 0, none⟩) k k) k (Lib.byteCells (rowB n k i)) ∧ Below w.heap.size w wr) (fun _ c _ => k - (intOf c).toNat)
  case atStart => exact ⟨0, Nat.zero_le _, rfl, hown, hbel⟩
  case round =>
    clear hown hbel
    obtain ⟨i, hik, rfl, hown, hbel⟩ := hrel
    by_cases hlt : i < k
    · have hlen := rowB_length n k i hik
      have hc := hown.cellAt i (by omega)
      rw [cells_get _ i (by omega)] at hc
      have hf := hown.frozenAt i
      have hst := hown.stored i (.int .u8 ((n : Int) / 2 ^ (8 * (k - 1 - i)) % 256))
      have HST := Lib.hid hst
      clear hst
      go_wp2
      go_roundw
      case rel =>
        have hst := HST.out
        have h1' := hst.1
        rw [store_val n k i hlt, set_cells, rowB_step n k i hlt] at h1'
        refine ⟨i + 1, by omega, by go_num, ?_, hbel.setCell (Nat.le_refl _) _⟩
        rw [store_val n k i hlt]
        exact h1'
      case measure => simp [intOf]; omega
    · obtain rfl : i = k := by omega
      rw [rowB_k] at hown
      obtain ⟨q, hq⟩ : ∃ q, q = lowB n i := ⟨_, rfl⟩
      rw [← hq] at hown
      have hql : i = q.length := by rw [hq, lowB_length]
      have hc : ∀ j (hj : j < q.length), wr.cell? ((⟨w.heap.size, 0, none⟩ : Addr).add j) = some (.int .u8 (q[j].toNat : Int)) := fun j hj => hown.cells (g := w.heap.size) rfl j _ (by simp [Lib.byteCells, hj])
      have hcv := run_convert_bytes_back (P := Tryd.prog) wr 22 9 5 ⟨w.heap.size, 0, none⟩ i q Tryd.underlying22 Tryd.underlying5 Tryd.underlying9 hc
      rw [← hql] at hcv
      have HQ := Lib.hid hq
      clear hc hq hql
      go_wp2
      go_ret
      exact ⟨by rw [HQ.out]; rfl, hbel⟩

theorem specEF_bad (n k : Int) (w : World) (h : k < 1 ∨ 7 < k ∨ n < 0) :
    Calls Tryd.prog 14 #[.int .i64 n, .int .i64 k] w fun e w' => e = .returned (.string ⟨#[]⟩) ∧ w = w' := by
  by_cases h1 : 1 ≤ k ∧ k ≤ 7
  · have h3 : n < 0 := by omega
    go_enter Tryd.func14, Tryd.ntmps14
    go_wp2_with (go_at_call 25; refine (l1In_yes _ _ _ _ (by omega) (by omega)).mono ?_; rintro e w' ⟨rfl, rfl⟩)
    go_ret
    exact ⟨rfl, rfl⟩
  · go_enter Tryd.func14, Tryd.ntmps14
    go_wp2_with (go_at_call 25; refine (l1In_no _ _ _ _ (by omega)).mono ?_; rintro e w' ⟨rfl, rfl⟩)
    go_ret
    exact ⟨rfl, rfl⟩

theorem low_step (n i m : Nat) (hm : m = n / 256 ^ i) : Value.string (({ data := #[UInt8.ofNat (m % 256)] } : ByteArray) ++ { data := (lowB n i).toArray }) = Value.string { data := (lowB n (i + 1)).toArray } := by
  subst hm
  have h : (({ data := #[UInt8.ofNat (n / 256 ^ i % 256)] } : ByteArray) ++ { data := (lowB n i).toArray }) = { data := (lowB n (i + 1)).toArray } := by
    apply ByteArray.ext
    simp [lowB]
  rw [h]

theorem one_string (W : World) (c : Int) (h0 : 0 ≤ c) (h1 : c < 256) :
    (convert 22 9 (.slice (some ⟨W.heap.size, 0, none⟩) 1 1)).run Tryd.prog (W.alloc (.cells #[.int .u8 c] 5)) = .ok (.string ⟨#[UInt8.ofNat c.toNat]⟩) (W.alloc (.cells #[.int .u8 c] 5)) := by
  refine run_convert_bytes_back (W.alloc (.cells #[.int .u8 c] 5)) 22 9 5 ⟨W.heap.size, 0, none⟩ 1 [UInt8.ofNat c.toNat] Tryd.underlying22 Tryd.underlying5 Tryd.underlying9 ?_
  intro j hj
  obtain rfl : j = 0 := by simp at hj; exact hj
  obtain ⟨n, rfl⟩ := Int.eq_ofNat_of_zero_le h0
  have hn : n < 256 := by omega
  simp [Addr.add, Nat.mod_eq_of_lt hn]

set_option maxHeartbeats 1000000 in
set_option maxRecDepth 100000 in
theorem specEF_good (n k : Nat) (w : World) (h1 : 1 ≤ k) (h7 : k ≤ 7) (hn : (n : Int) ≤ 9223372036854775807) (r : List UInt8) (hr : Hid (r = if n / 256 ^ k = 0 then lowB n k else [])) :
    Calls Tryd.prog 14 #[.int .i64 n, .int .i64 k] w fun e w' => e = .returned (.string ⟨r.toArray⟩) ∧ Below w.heap.size w w' := by
  have hd3 : decide ((n : Int) < 0) = false := by simp
  go_enter Tryd.func14, Tryd.ntmps14
  go_wp2_with (go_at_call 25; refine (l1In_yes _ _ _ _ (by omega) (by omega)).mono ?_; rintro e w' ⟨rfl, rfl⟩)
  go_loopw [0, 5, 6] (fun a s c wr => ∃ i m : Nat, i ≤ k ∧ Hid (m = n / 256 ^ i) ∧ (m : Int) ≤ 9223372036854775807 ∧ a = .int .i64 m ∧ c = .int .i64 i ∧ s = .string ⟨(lowB n i).toArray⟩ ∧ Below w.heap.size w wr) (fun _ _ c _ => k - (intOf c).toNat)
  case atStart => exact ⟨0, n, Nat.zero_le _, by unfold Hid; simp, hn, rfl, rfl, rfl, Below.refl _ _⟩
  case round =>
    obtain ⟨i, m, hik, hm, hmle, rfl, rfl, rfl, hbel⟩ := hrel
    have hll : (lowB n i).length ≤ 7 := by rw [lowB_length]; omega
    by_cases hlt : i < k
    · have hcv := one_string wr ((m : Int) % 256) (by omega) (by omega)
      have HS := Lib.hid (low_step n i m hm.out)
      have hsz := hbel.size
      go_wp2
      go_roundw
      case rel => exact ⟨i + 1, m / 256, by omega, by unfold Hid; rw [hm.out, Nat.pow_succ, Nat.div_div_eq_div_mul], by omega, by go_num, by go_num, HS.out, hbel.alloc hsz _⟩
      case measure => simp [intOf]; omega
    · obtain rfl : i = k := by omega
      by_cases h0 : m = 0
      · have hpos : decide (0 < (m : Int)) = false := by simp; omega
        have hpos' : ¬ (0 : Int) < m := by omega
        have hr' : r = lowB n i := by rw [hr.out, if_pos (by rw [← hm.out]; exact h0)]
        have HR := Lib.hid hr'
        clear hr' h0
        go_wp2
        go_ret
        exact ⟨by rw [HR.out]; rfl, hbel⟩
      · have hpos : (0 : Int) < m := by omega
        have hr' : r = [] := by rw [hr.out, if_neg (by rw [← hm.out]; exact h0)]
        have HR := Lib.hid hr'
        clear hr' h0
        go_wp2
        go_ret
        exact ⟨by rw [HR.out]; rfl, hbel⟩

end Go.Proofs.YtfcbpegpgmcjhaaDoor
