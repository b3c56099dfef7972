/- Walks over EncodeHex. -/
import Derived.Test.YtfcbpegpgmcjhaaDoorEvWalks
import Derived.Test.YtfcbpegpgmcjhaaDoorEhPlain
import Derived.Test.YtfcbpegpgmcjhaaDoorShelf
import Derived.Lib.Builder
import Derived.StillTailTactics
import Derived.BigQuiet
import Derived.Deep.QuietTactic
import Derived.Deep.RegionWith
import Derived.Deep.AppendLies
import Derived.Deep.RegionLaw
namespace Go.Proofs.YtfcbpegpgmcjhaaDoor
open Go.RowKit

theorem copyCheck_used (b : Nat) (w : World) (c0 : w.cell? ⟨b, 0, none⟩ = some (.pointer (some ⟨b, 0, none⟩))) :
    Calls Tryd.prog 35 #[.pointer (some ⟨b, 0, none⟩)] w fun e w' => e = .returned (.tuple #[]) ∧ w = w' := by
  obtain ⟨j, hj⟩ := Option.isSome_iff_exists.1 (show (Tryd.prog.info? 48).isSome = true by kernel_rfl)
  have hne := fun W : World => Lib.run_neq_ptr_same (P := Tryd.prog) (w := W) ⟨b, 0, none⟩ Tryd.underlying46 hj
  go_enter Tryd.func35, Tryd.ntmps35
  go_wp2
  go_end0
  exact ⟨rfl, rfl⟩

/-- A used builder of the call's own: block b, its bytes l. -/
def UsedB (B b : Nat) (l : List UInt8) (w : World) : Prop := Lib.BuilderAt 48 5 B b (.pointer (some ⟨b, 0, none⟩)) (Lib.byteCells l) w

set_option maxHeartbeats 1000000 in
theorem writeByte_used (B b : Nat) (l : List UInt8) (c : Int) (w : World) (h : UsedB B b l w) (hl : l.length ≤ 1000000000) (hBw : B ≤ w.heap.size) (h0 : 0 ≤ c) (h1 : c < 256) :
    Calls Tryd.prog 27 #[.pointer (some ⟨b, 0, none⟩), .int .u8 c] w fun e w' => e = .returned .nilIface ∧ UsedB B b (l ++ [UInt8.ofNat c.toNat]) w' ∧ Below B w w' := by
  obtain ⟨i0, hi, hz0, hz1, hz2⟩ := info_parts infoByte
  obtain ⟨hB, v, hbk, hown, hne⟩ := h
  rw [Lib.byteCells_length] at hown
  have c0 : w.cell? ⟨b, 0, none⟩ = some (.pointer (some ⟨b, 0, none⟩)) := by rw [Lib.cell_of_heap hbk]; rfl
  have c1 : w.cell? ⟨b, 1, none⟩ = some v := by rw [Lib.cell_of_heap hbk]; rfl
  go_enter Tryd.func27, Tryd.ntmps27
  go_wp2_with fail
  refine (copyCheck_used b _ c0).mono ?_
  rintro e w' ⟨rfl, rfl⟩
  go_wp2_with (at_builtin; refine wpList_append_byte_g rfl (.tmp 11) (.tmp 13) 22 rfl B 5 i0 (.int .u8 0) Tryd.underlying22 hi hz0 hz1 hz2 rfl _ l rfl hown c h0 h1 rfl hl hBw ?_)
  intro v' w2 q hq hown' hgrow hv'
  have hlt : b < w.heap.size := by
    rcases Nat.lt_or_ge b w.heap.size with h' | h'
    · exact h'
    · simp [Array.getElem?_eq_none h'] at hbk
  have hb2 : w2.heap[b]? = some (.cells #[.pointer (some ⟨b, 0, none⟩), v] 48 (0, 0)) := by
    rw [hgrow.block b (by simp; omega) (fun e => hne e.symm), Below.heap_alloc w _ b hlt]
    exact hbk
  have hbel : Below B w w2 := ((Below.refl B w).alloc hBw _).grown hgrow (by simp; omega) fun k hk => (hown.lt k hk).1
  obtain ⟨g, cap, cur, rfl, hgB, hgk, hncap, hcap, hcur, htake⟩ : ∃ g cap cur, v' = .slice (some ⟨g, 0, none⟩) q.length cap ∧ B ≤ g ∧ w2.heap[g]? = some (.cells cur 5 (0, 0)) ∧ q.length ≤ cap ∧ cap ≤ maxLen ∧ cur.size = cap * 1 ∧ cur.toList.take (q.length * 1) = Lib.byteCells q := by
    rcases hown'.2 with ⟨h', -⟩ | h'
    · exact absurd h' hv'
    · exact h'
  have hgb : g ≠ b := by
    rintro rfl
    rw [hb2] at hgk
    have := (Obj.cells.inj (Option.some.inj hgk)).2.1
    exact absurd this (by decide)
  have d1 : w2.cell? ⟨b, 1, none⟩ = some v := by rw [Lib.cell_of_heap hb2]; rfl
  have f1 : w2.frozen? ⟨b, 1, none⟩ = false := Lib.frozen_of_heap hb2 1
  go_wp2
  go_ret
  refine ⟨rfl, ?_, hbel.setCell (p := ⟨b, 1, none⟩) hB _⟩
  have hp := Lib.BuilderAt.put (T := 48) (e := 5) hB hb2 (bs' := Lib.byteCells q) (by rw [Lib.byteCells_length]; exact hown') (by decide)
  rw [hq.out] at hp
  exact (by rw [hq.out]; exact hp)

theorem writeByte_c (B b : Nat) (l : List UInt8) (c : UInt8) (w : World) (h : UsedB B b l w) (hl : l.length ≤ 1000000000) (hBw : B ≤ w.heap.size) :
    Calls Tryd.prog 27 #[.pointer (some ⟨b, 0, none⟩), .int .u8 (c.toNat : Int)] w fun e w' => e = .returned .nilIface ∧ UsedB B b (l ++ [c]) w' ∧ Below B w w' := by
  have h := writeByte_used B b l (c.toNat : Int) w h hl hBw (Int.natCast_nonneg _) (byte_lt c)
  rw [show UInt8.ofNat ((c.toNat : Int)).toNat = c by simp] at h
  exact h

set_option maxHeartbeats 1000000 in
set_option maxRecDepth 100000 in
theorem implEH (s : ByteArray) (w : World) (hs : (s.size : Int) ≤ 1048576) :
    Calls Tryd.prog 15 #[.string s] w fun e w' => e = .returned (.string ⟨(hexL s.data.toList).toArray⟩) ∧ Below w.heap.size w w' := by
  obtain ⟨l, hl⟩ : ∃ l, l = s.data.toList := ⟨_, rfl⟩
  rw [← hl]
  have HLn := Lib.hid (show l.length = s.size by rw [hl]; simp)
  have HL := Lib.hid hl
  clear hl
  have hsN : s.size ≤ 1048576 := by omega
  go_enter Tryd.func15, Tryd.ntmps15
  go_wp2_with fail
  rw [show (2 * (s.size : Int)) = ((2 * s.size : Nat) : Int) by omega]
  refine (Tryd.Builder_Grow_fresh_cap w.heap.size w.heap.size (2 * s.size) _ (Nat.le_refl _) ?hbk ?hB (by omega)).mono ?_
  case hbk => exact heap_alloc_new w _
  case hB => simp
  rintro e w1 ⟨rfl, ⟨hu, hb1⟩, -⟩
  have hbel1 : Below w.heap.size w w1 := ((Below.refl _ w).alloc (Nat.le_refl _) _).trans hb1
  have hu1 : UsedB w.heap.size w.heap.size [] w1 := hu
  clear hu hb1
  go_wp2
  go_loopw [4, 11] (fun _ c wr => ∃ i : Nat, i ≤ s.size ∧ c = .int .i64 i ∧ UsedB w.heap.size w.heap.size (hexL (l.take i)) wr ∧ Below w.heap.size w wr) (fun _ c _ => s.size - (intOf c).toNat)
  case atStart => exact ⟨0, by omega, rfl, hu1, hbel1⟩
  case round =>
    clear hu1 hbel1
    obtain ⟨i, hi, rfl, hu, hbel⟩ := hrel
    have HU := Lib.hid hu
    clear hu
    have hlen : (hexL (l.take i)).length ≤ 1000000 * 3 := by rw [hexL_length]; simp; omega
    have hsz := hbel.size
    by_cases hlt : i < s.size
    · have e1 := u8_and15' s[i]
      have hb := byte_lt s[i]
      have HT := Lib.hid (show l.take (i + 1) = l.take i ++ [s[i]] by have := HL.out; subst this; exact take_snoc s i hlt)
      have hk1 : s[i].toNat / 16 < 16 := by omega
      have hk2 : s[i].toNat % 16 < 16 := by omega
      have HK1 := Lib.hid (hexTab_get (s[i].toNat / 16) hk1 hk1)
      have HK2 := Lib.hid (hexTab_get (s[i].toNat % 16) hk2 hk2)
      go_wp2_with fail
      refine (writeByte_c w.heap.size w.heap.size _ _ _ HU.out (by omega) hsz).mono ?_
      rintro e w2 ⟨rfl, hu2, hb2⟩
      have HU2 : Hid (UsedB w.heap.size w.heap.size (hexL (l.take i) ++ [hexD (s[i].toNat / 16)]) w2) := by rw [← HK1.out]; exact hu2
      have hbel2 := hbel.trans hb2
      have hsz2 := hbel2.size
      clear hu2 hb2
      go_wp2_with fail
      refine (writeByte_c w.heap.size w.heap.size _ _ _ HU2.out (by simp; omega) hsz2).mono ?_
      rintro e w3 ⟨rfl, hu3, hb3⟩
      have HU3 : Hid (UsedB w.heap.size w.heap.size (hexL (l.take i) ++ [hexD (s[i].toNat / 16)] ++ [hexD (s[i].toNat % 16)]) w3) := by rw [← HK2.out]; exact hu3
      have hbel3 := hbel2.trans hb3
      clear hu3 hb3
      go_wp2
      go_roundw
      case rel => exact ⟨i + 1, by omega, by go_num, by rw [HT.out, hexL_snoc]; exact HU3.out, hbel3⟩
      case measure => simp [intOf]; omega
    · obtain rfl : i = s.size := by omega
      have hall : l.take s.size = l := List.take_of_length_le (by rw [HLn.out]; exact Nat.le_refl _)
      rw [hall] at HU
      clear hall
      go_wp2_with fail
      refine (Tryd.Builder_String_any w.heap.size w.heap.size (hexL l) _ (.inr HU.out) hsz).mono ?_
      rintro e w2 ⟨rfl, hb2⟩
      go_wp2
      go_ret
      exact ⟨rfl, hbel.trans hb2⟩

end Go.Proofs.YtfcbpegpgmcjhaaDoor
