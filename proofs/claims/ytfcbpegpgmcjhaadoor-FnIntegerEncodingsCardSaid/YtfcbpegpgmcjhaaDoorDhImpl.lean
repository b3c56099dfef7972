/- Walks over DecodeHex of the program. -/
import Derived.Test.YtfcbpegpgmcjhaaDoorDhWalks
import Derived.Test.YtfcbpegpgmcjhaaDoorEfPlain
import Derived.Lib.OthersKept
namespace Go.Proofs.YtfcbpegpgmcjhaaDoor
open Go.RowKit

theorem hexValue_dec (r : Int) (w : World) (h1 : 48 ≤ r) (h2 : r ≤ 57) : Calls Tryd.prog 29 #[.int .i32 r] w fun e w' => e = .returned (.tuple #[.int .u8 (r - 48), .bool true]) ∧ w = w' := by
  go_enter Tryd.func29, Tryd.ntmps29
  go_wp2
  go_ret2
  exact ⟨rfl, rfl⟩

theorem hexValue_let (r : Int) (w : World) (h1 : 97 ≤ r) (h2 : r ≤ 102) : Calls Tryd.prog 29 #[.int .i32 r] w fun e w' => e = .returned (.tuple #[.int .u8 (r - 97 + 10), .bool true]) ∧ w = w' := by
  have hd : decide (r ≤ 57) = false := by simp; omega
  have ht : decide (48 ≤ r) = true := by simp; omega
  go_enter Tryd.func29, Tryd.ntmps29
  go_wp2
  go_ret2
  exact ⟨rfl, rfl⟩

theorem hexValue_no (r : Int) (w : World) (h0 : 0 ≤ r) (h1 : r ≤ 1114111) (h : ¬ (48 ≤ r ∧ r ≤ 57) ∧ ¬ (97 ≤ r ∧ r ≤ 102)) : Calls Tryd.prog 29 #[.int .i32 r] w fun e w' => e = .returned (.tuple #[.int .u8 0, .bool false]) ∧ w = w' := by
  obtain ⟨ha, hb⟩ := h
  by_cases c1 : 48 ≤ r <;> by_cases c2 : 97 ≤ r
  · have d1 : decide (r ≤ 57) = false := by simp; omega
    have d2 : decide (r ≤ 102) = false := by simp; omega
    clear ha hb
    go_enter Tryd.func29, Tryd.ntmps29
    go_wp2
    go_ret2
    exact ⟨rfl, rfl⟩
  · have d1 : decide (r ≤ 57) = false := by simp; omega
    have d2 : decide (97 ≤ r) = false := by simp; omega
    clear ha hb
    go_enter Tryd.func29, Tryd.ntmps29
    go_wp2
    go_ret2
    exact ⟨rfl, rfl⟩
  · omega
  · have d1 : decide (48 ≤ r) = false := by simp; omega
    have d2 : decide (97 ≤ r) = false := by simp; omega
    clear ha hb
    go_enter Tryd.func29, Tryd.ntmps29
    go_wp2
    go_ret2
    exact ⟨rfl, rfl⟩

/-- The value of a digit. -/
theorem hexValue_yes (c : UInt8) (w : World) (h : 0 ≤ fromHex c) : Calls Tryd.prog 29 #[.int .i32 (c.toNat : Int)] w fun e w' => e = .returned (.tuple #[.int .u8 (fromHex c), .bool true]) ∧ w = w' := by
  unfold fromHex at h ⊢
  split at h
  · rename_i hd
    rw [if_pos hd]
    exact hexValue_dec _ w (by omega) (by omega)
  · rename_i hd
    rw [if_neg hd]
    split at h
    · rename_i h2
      rw [if_pos h2]
      have := hexValue_let (c.toNat : Int) w (by omega) (by omega)
      rw [show (c.toNat : Int) - 97 + 10 = (c.toNat : Int) - 87 by omega] at this
      exact this
    · omega

theorem hexValue_bad (c : UInt8) (w : World) (h : fromHex c < 0) : Calls Tryd.prog 29 #[.int .i32 (c.toNat : Int)] w fun e w' => e = .returned (.tuple #[.int .u8 0, .bool false]) ∧ w = w' := by
  refine hexValue_no _ w (by omega) (by have := c.toNat_lt; omega) ?_
  unfold fromHex at h
  split at h
  · omega
  · split at h
    · omega
    · omega

theorem own_iterAt {w : World} {base : Nat} {e : TypeId} {size : Nat} {v : Value} {n : Nat} {xs : List Value} (h : w.ownsRow base e size v n xs) {k : Nat} {s : ByteArray} {pos : Nat} (hk : w.heap[k]? = some (.stringIter s pos)) (p : Nat) : (w.iterAt k s p).ownsRow base e size v n xs := by
  obtain ⟨h1, h2⟩ := h
  refine ⟨h1, ?_⟩
  rcases h2 with h2 | ⟨g, cap, cur, a, b, c, d⟩
  · exact .inl h2
  · refine .inr ⟨g, cap, cur, a, b, ?_, d⟩
    have hne : g ≠ k := by rintro rfl; rw [c] at hk; cases hk
    rw [Lib.iterAt_other _ _ _ _ _ hne]; exact c

set_option maxHeartbeats 1000000 in
set_option maxRecDepth 100000 in
theorem implDH (s : ByteArray) (w : World) (hs : (s.size : Int) ≤ 1048576) : Calls Tryd.prog 16 #[.string s] w (DHpost (DhR s.data.toList) w) := by
  obtain ⟨i0, hi0, hz0, hz1, hz2⟩ := info_parts infoByte
  obtain ⟨l, hl⟩ : ∃ l, l = s.data.toList := ⟨_, rfl⟩
  rw [← hl]
  have HLn := Lib.hid (show l.length = s.size by rw [hl]; simp)
  have HL := Lib.hid hl
  clear hl
  by_cases hpar : s.size % 2 = 1
  · have hd : ((s.size : Int) % 2 != 0) = true := by rw [bne_iff_ne]; omega
    have hno := Lib.hid (show DhR l [] false from .inl ⟨by rw [HLn.out]; exact hpar, rfl, rfl⟩)
    clear hpar
    go_enter Tryd.func16, Tryd.ntmps16
    go_wp2
    go_ret2
    exact DHpost.mk [] false hno.out (Below.refl _ _)
  · have hd : ((s.size : Int) % 2 != 0) = false := by rw [bne_eq_false_iff_eq]; omega
    have HE := Lib.hid (show s.size % 2 = 0 by omega)
    clear hpar
    obtain ⟨N, hN⟩ : ∃ N, N = s.size / 2 := ⟨_, rfl⟩
    have HN := Lib.hid (show 2 * N = s.size by have := HE.out; omega)
    have hNI : (s.size : Int) / 2 = (N : Int) := by omega
    have hNl : N ≤ 1048576 := by omega
    clear hN
    go_enter Tryd.func16, Tryd.ntmps16
    go_wp2_with (at_make; refine wpList_make_full _ rfl _ _ 22 rfl w.heap.size 5 i0 (.int .u8 0) 1 Tryd.underlying22 hi0 hz0 hz1 .i64 .i64 _ _ N rfl rfl ?c4 ?c5 ?c1 ?c2 ?c3 ?_)
    case c1 => rw [hz2]; omega
    case c2 => unfold maxLen; omega
    case c3 => exact Nat.le_refl _
    case c4 => rfl
    case c5 => rfl
    intro w1 hown hgrow
    have hbel : Below w.heap.size w w1 := (Below.refl _ _).grown hgrow (Nat.le_refl _) (fun _ h => by cases h)
    rw [toList_madeCells_one, cells_zero, ← rowH_0 l N] at hown
    clear hgrow hNI
    have hsz := hbel.size
    obtain ⟨K, hK⟩ : ∃ K, K = w1.heap.size := ⟨_, rfl⟩
    have hrow : w.heap.size < w1.heap.size := (hown.lt _ rfl).2
    have hK0 : (w1.iter s 0).heap[w1.heap.size]? = some (.stringIter s 0) := World.iter_heap w1 s 0
    have hown0 := hown.alloc (.stringIter s 0)
    have hbel0 : Below w.heap.size w (w1.iter s 0) := hbel.alloc hsz _
    go_wp2
    go_loopw [5, 6, 7, 8] (fun _ _ _ _ wr => ∃ pos : Nat, pos ≤ s.size ∧ wr.heap[w1.heap.size]? = some (.stringIter s pos) ∧ Hid (goodTo l pos) ∧ wr.ownsRow w.heap.size 5 1 (.slice (some ⟨w.heap.size, 0, none⟩) N N) N (Lib.byteCells (rowH l N pos)) ∧ Below w.heap.size w wr) (fun _ _ _ _ wr => s.size - wr.iterPos w1.heap.size)
    case atStart => exact ⟨0, Nat.zero_le _, hK0, fun j h => by omega, hown0, hbel0⟩
    case round =>
      clear hK0 hown0 hbel0 hown hbel hK K
      obtain ⟨pos, hps, hk, HG, hown, hbel⟩ := hrel
      by_cases hp : pos < s.size
      · have g0 := Lib.hid (getD_at s l HL.out pos hp)
        have hmu : wr.iterPos w1.heap.size = pos := by simp [World.iterPos, hk]
        by_cases h128 : s[pos].toNat < 128
        · have hnext : ∀ ty, (Instr.next (.pointer (some ⟨w1.heap.size, 0, none⟩)) true ty).run Tryd.prog wr = _ := fun ty => Lib.run_next_ascii_at wr w1.heap.size s pos ty hk hp h128
          have hown1 := own_iterAt hown hk (pos + 1)
          have hk1 := Lib.iterAt_heap wr w1.heap.size s pos (pos + 1) hk
          have hbel1 : Below w.heap.size w (wr.iterAt w1.heap.size s (pos + 1)) := Lib.below_iterAt hbel (by omega) s (pos + 1)
          generalize wr.iterAt w1.heap.size s (pos + 1) = W1 at hnext hown1 hk1 hbel1
          clear hown hbel hk
          by_cases ha : 0 ≤ fromHex s[pos]
          · have k0 := fun W => hexValue_yes s[pos] W ha
            have hr := fromHex_range s[pos]
            have HG2 := Lib.hid (goodTo_succ HG.out (by rw [g0.out]; exact ha))
            have hfx : fromHex s[pos] = (fx l pos : Nat) := by unfold fx; rw [g0.out]; omega
            rw [hfx] at k0
            have K0 := Lib.hid k0
            clear k0 ha hr hfx h128
            have hv := fx_lt l pos
            have ho := here_lt l pos
            have hlt2 : pos / 2 < N := by have := HN.out; omega
            have hstep := Lib.hid (fun c hc => rowH_step l N pos c hlt2 hc)
            have hrl := rowH_length l N pos
            have hc := hown1.cellAt (pos / 2) (by omega)
            rw [cells_get _ (pos / 2) (by omega), rowH_get l N pos (pos / 2) hlt2] at hc
            have hf := hown1.frozenAt (pos / 2)
            have hnib := nibble (rowHc l pos (pos / 2)).toNat (fx l pos) ho hv
            have HST := Lib.hid (hown1.stored (pos / 2) (.int .u8 ((UInt8.ofNat (16 * (rowHc l pos (pos / 2)).toNat + fx l pos)).toNat : Int)))
            have HNV := Lib.hid (nibble_val (rowHc l pos (pos / 2)).toNat (fx l pos) ho hv)
            have HNB := Lib.hid hnib
            clear hnib hrl hown1
            generalize hO : rowHc l pos (pos / 2) = O at hc ho HST HNV HNB hstep
            generalize hV : fx l pos = V at hv K0 HST HNV HNB hstep
            clear hO hV
            go_wp2_with fail
            refine (K0.out _).mono ?_
            rintro e w2 ⟨rfl, rfl⟩
            go_wp2
            have hk2 : (W1.setCell ⟨w.heap.size, pos / 2, none⟩ (.int .u8 (bits .or .u8 ((O.toNat : Int) * 16) (V : Int)))).heap[w1.heap.size]? = some (.stringIter s (pos + 1)) := by
              rw [Below.heap_setCell W1 _ _ _ (by show w1.heap.size ≠ w.heap.size; omega)]; exact hk1
            go_roundw
            case rel =>
              refine ⟨pos + 1, by omega, hk2, HG2, ?_, hbel1.setCell (Nat.le_refl _) _⟩
              have h1 := HST.out.1
              rw [set_cells, hstep.out _ HNV.out] at h1
              rw [HNB.out]
              exact h1
            case measure =>
              have hmu2 : (W1.setCell ⟨w.heap.size, pos / 2, none⟩ (.int .u8 (bits .or .u8 ((O.toNat : Int) * 16) (V : Int)))).iterPos w1.heap.size = pos + 1 := by simp only [World.iterPos, hk2]
              rw [hmu, hmu2]
              omega
          · have hno := Lib.hid (show DhR l [] false from .inr (.inr ⟨by rw [HLn.out]; exact HE.out, ⟨pos, by rw [HLn.out]; exact hp, by rw [g0.out]; omega⟩, rfl, rfl⟩))
            have K0 := Lib.hid (fun W => hexValue_bad s[pos] W (by omega))
            clear ha
            go_wp2_with fail
            refine (K0.out _).mono ?_
            rintro e w2 ⟨rfl, rfl⟩
            go_wp2
            go_ret2
            exact DHpost.mk [] false hno.out hbel1
        · have hnext : ∀ ty, (Instr.next (.pointer (some ⟨w1.heap.size, 0, none⟩)) true ty).run Tryd.prog wr = _ := fun ty => Lib.run_next_any_at wr w1.heap.size s pos ty hk hp
          have hbel1 : Below w.heap.size w (wr.iterAt w1.heap.size s (pos + (Utf8.decode s pos).2)) := Lib.below_iterAt hbel (by omega) s _
          have hlo := rune_hi s pos hp (by omega)
          have hhi := Lib.rune_le s pos
          have hno := Lib.hid (show DhR l [] false from .inr (.inr ⟨by rw [HLn.out]; exact HE.out, ⟨pos, by rw [HLn.out]; exact hp, by rw [g0.out]; unfold fromHex; rw [if_neg (by omega), if_neg (by omega)]; omega⟩, rfl, rfl⟩))
          generalize wr.iterAt w1.heap.size s (pos + (Utf8.decode s pos).2) = W1 at hnext hbel1
          generalize (Utf8.decode s pos).1 = r at hnext hlo hhi
          have K0 := Lib.hid (fun W => hexValue_no (r : Int) W (by omega) (by omega) (by omega))
          clear hown hbel hk h128
          go_wp2_with fail
          refine (K0.out _).mono ?_
          rintro e w2 ⟨rfl, rfl⟩
          go_wp2
          go_ret2
          exact DHpost.mk [] false hno.out hbel1
      · have hnext : ∀ ty, (Instr.next (.pointer (some ⟨w1.heap.size, 0, none⟩)) true ty).run Tryd.prog wr = _ := fun ty => Lib.run_next_end_at wr w1.heap.size s pos ty hk hp
        have he : pos = s.size := by omega
        have hyes := Lib.hid (show DhR l (rowH l N pos) true from .inr (.inl ⟨by rw [HLn.out]; exact HE.out, by rw [HLn.out, ← he]; exact HG.out, by rw [he, ← HN.out, rowH_end, HLn.out, ← HN.out]; congr 1; omega, rfl⟩))
        have hrl := rowH_length l N pos
        obtain ⟨q, hq⟩ : ∃ q, q = rowH l N pos := ⟨_, rfl⟩
        rw [← hq] at hown hyes hrl
        clear he hq
        have hc : ∀ j (hj : j < q.length), wr.cell? ((⟨w.heap.size, 0, none⟩ : Addr).add j) = some (.int .u8 (q[j].toNat : Int)) := fun j hj => hown.cells (g := w.heap.size) rfl j _ (by simp [Lib.byteCells, hj])
        have hcv := run_convert_bytes_back (P := Tryd.prog) wr 22 9 5 ⟨w.heap.size, 0, none⟩ N q Tryd.underlying22 Tryd.underlying5 Tryd.underlying9 hc
        rw [hrl] at hcv
        clear hc hrl
        go_wp2
        go_ret2
        exact DHpost.mk q true hyes.out hbel

end Go.Proofs.YtfcbpegpgmcjhaaDoor
