/- Walks over DecodeHex of the model. -/
import Derived.Test.YtfcbpegpgmcjhaaEhWalks
import Derived.Test.YtfcbpegpgmcjhaaDhPlain
namespace Go.Proofs.Ytfcbpegpgmcjhaa
open Go.RowKit

set_option maxRecDepth 100000 in
theorem l1FromHex_any (c : UInt8) (w : World) : Calls Try.prog 26 #[.int .u8 (c.toNat : Int)] w fun e w' => e = .returned (.int .i64 (fromHex c)) ∧ w = w' := by
  go_enter Try.func26, Try.ntmps26
  go_wp2
  go_loop [3] (fun k => ∃ n : Nat, n ≤ 16 ∧ Hid (∀ j, j < n → hexD j ≠ c) ∧ k = .int .i64 n) (fun k => 16 - (intOf k).toNat)
  case atStart => exact ⟨0, by omega, fun j h => by omega, rfl⟩
  case round =>
    obtain ⟨n, hn, HN, rfl⟩ := hrel
    by_cases hlt : n < 16
    · by_cases hx : hexD n = c
      · have hf := Lib.hid (show fromHex c = n by rw [← hx]; exact fromHex_hexD n hlt)
        have hb : (((hexD n).toNat : Int) == (c.toNat : Int)) = true := by rw [hx]; simp
        clear hx
        go_wp2_with (go_at_call 22; refine (l1Digit_any n _ hlt).mono ?_; rintro e w1 ⟨rfl, rfl⟩)
        go_ret
        exact ⟨by rw [hf.out]; rfl, rfl⟩
      · have hb : (((hexD n).toNat : Int) == (c.toNat : Int)) = false := by
          rw [beq_eq_false_iff_ne]; intro e; exact hx (UInt8.toNat.inj (by omega))
        have HX := Lib.hid hx
        clear hx
        go_wp2_with (go_at_call 22; refine (l1Digit_any n _ hlt).mono ?_; rintro e w1 ⟨rfl, rfl⟩)
        go_round
        case rel => exact ⟨n + 1, by omega, fun j hj => by
          by_cases e : j = n
          · rw [e]; exact HX.out
          · exact HN.out j (by omega), by go_num⟩
        case measure => simp [intOf]; omega
    · have hf := Lib.hid (fromHex_none c fun k hk => HN.out k (by omega))
      have hge : (16 : Int) ≤ n := by omega
      go_wp2
      go_ret
      exact ⟨by rw [hf.out]; rfl, rfl⟩

def DHpost (R : List UInt8 → Bool → Prop) (w : World) (e : Ending) (w' : World) : Prop := ∃ r b, R r b ∧ e = .returned (.tuple #[.string ⟨r.toArray⟩, .bool b]) ∧ Below w.heap.size w w'

theorem DHpost.mk {R : List UInt8 → Bool → Prop} {w w' : World} (r : List UInt8) (b : Bool) (h : R r b) (hb : Below w.heap.size w w') : DHpost R w (.returned (.tuple #[.string ⟨r.toArray⟩, .bool b])) w' := ⟨r, b, h, rfl, hb⟩

set_option maxHeartbeats 1000000 in
set_option maxRecDepth 100000 in
theorem specDH (s : ByteArray) (w : World) (hs : (s.size : Int) ≤ 1048576) : Calls Try.prog 19 #[.string s] w (DHpost (DhR s.data.toList) w) := by
  obtain ⟨i0, hi0, hz0, hz1, hz2⟩ := info_parts infoByte
  obtain ⟨l, hl⟩ : ∃ l, l = s.data.toList := ⟨_, rfl⟩
  rw [← hl]
  have HLn := Lib.hid (show l.length = s.size by rw [hl]; simp)
  have HL := Lib.hid hl
  clear hl
  by_cases hpar : s.size % 2 = 1
  · have hd : ((s.size : Int) % 2 == 1) = true := by rw [beq_iff_eq]; omega
    have hno := Lib.hid (show DhR l [] false from .inl ⟨by rw [HLn.out]; exact hpar, rfl, rfl⟩)
    clear hpar
    go_enter Try.func19, Try.ntmps19
    go_wp2
    go_ret2
    exact DHpost.mk [] false hno.out ((Below.refl _ _).alloc (Nat.le_refl _) _)
  · have hd : ((s.size : Int) % 2 == 1) = false := by rw [beq_eq_false_iff_ne]; omega
    have HE := Lib.hid (show s.size % 2 = 0 by omega)
    clear hpar
    go_enter Try.func19, Try.ntmps19
    go_wp2
    go_loopw [4, 5, 6, 7] (fun v c _ _ wr => ∃ i : Nat, Hid (i % 2 = 0) ∧ i ≤ s.size ∧ Hid (goodTo l i) ∧ c = .int .i64 i ∧ wr.ownsRow w.heap.size 5 1 v (outB l (i / 2)).length (Lib.byteCells (outB l (i / 2))) ∧ Below w.heap.size w wr ∧ v ≠ .slice none 0 0) (fun _ c _ _ _ => s.size - (intOf c).toNat)
    case atStart => exact ⟨0, rfl, by omega, fun j h => by omega, rfl, World.ownsRow_lit w #[] 0 (Nat.le_refl _) (by simp [maxLen]) rfl, (Below.refl _ _).alloc (Nat.le_refl _) _, by simp⟩
    case round =>
      obtain ⟨i, HI, hi, HG, rfl, hown, hbel, hv0⟩ := hrel
      have hlen : (outB l (i / 2)).length ≤ 1000000 * 3 := by rw [outB_length]; omega
      have hsz := hbel.size
      by_cases hlt : i < s.size
      · have hlt1 : i + 1 < s.size := by have := HI.out; have := HE.out; omega
        have g0 := Lib.hid (getD_at s l HL.out i hlt)
        have g1 := Lib.hid (getD_at s l HL.out (i + 1) hlt1)
        have r0 := fromHex_range s[i]
        have r1 := fromHex_range s[i + 1]
        have k0 := fun W => l1FromHex_any s[i] W
        have k1 := fun W => l1FromHex_any s[i + 1] W
        obtain ⟨A, hA⟩ : ∃ A, A = fromHex s[i] := ⟨_, rfl⟩
        obtain ⟨B, hB⟩ : ∃ B, B = fromHex s[i + 1] := ⟨_, rfl⟩
        rw [← hA] at r0 k0
        rw [← hB] at r1 k1
        have HA := Lib.hid hA
        have HB := Lib.hid hB
        have K0 := Lib.hid k0
        have K1 := Lib.hid k1
        clear hA hB k0 k1
        obtain ⟨r00, r01⟩ := r0
        obtain ⟨r10, r11⟩ := r1
        by_cases ha : A < 0
        · have hno := Lib.hid (show DhR l [] false from .inr (.inr ⟨by rw [HLn.out]; exact HE.out, ⟨i, by rw [HLn.out]; exact hlt, by rw [g0.out, ← HA.out]; exact ha⟩, rfl, rfl⟩))
          go_wp2_with fail
          refine (K0.out _).mono ?_
          rintro e w1 ⟨rfl, rfl⟩
          go_wp2_with fail
          refine (K1.out _).mono ?_
          rintro e w1 ⟨rfl, rfl⟩
          go_wp2
          go_ret2
          exact DHpost.mk [] false hno.out hbel
        · by_cases hb : B < 0
          · have ha' : 0 ≤ A := by omega
            have hno := Lib.hid (show DhR l [] false from .inr (.inr ⟨by rw [HLn.out]; exact HE.out, ⟨i + 1, by rw [HLn.out]; exact hlt1, by rw [g1.out, ← HB.out]; exact hb⟩, rfl, rfl⟩))
            go_wp2_with fail
            refine (K0.out _).mono ?_
            rintro e w1 ⟨rfl, rfl⟩
            go_wp2_with fail
            refine (K1.out _).mono ?_
            rintro e w1 ⟨rfl, rfl⟩
            go_wp2
            go_ret2
            exact DHpost.mk [] false hno.out hbel
          · have ha' : 0 ≤ A := by omega
            have hb' : 0 ≤ B := by omega
            have HG2 := Lib.hid (goodTo_succ (goodTo_succ HG.out (by rw [g0.out, ← HA.out]; exact ha')) (by rw [g1.out, ← HB.out]; exact hb'))
            have hfx : UInt8.ofNat (16 * A + B).toNat = UInt8.ofNat (16 * fx l (2 * (i / 2)) + fx l (2 * (i / 2) + 1)) := by
              have e2 : 2 * (i / 2) = i := by have := HI.out; omega
              unfold fx
              rw [e2, g0.out, g1.out, ← HA.out, ← HB.out]
              congr 1; omega
            have HF := Lib.hid hfx
            clear hfx
            go_wp2_with fail
            refine (K0.out _).mono ?_
            rintro e w1 ⟨rfl, rfl⟩
            go_wp2_with fail
            refine (K1.out _).mono ?_
            rintro e w1 ⟨rfl, rfl⟩
            go_wp2_with (at_builtin; refine wpList_append_byte rfl (.tmp 34) (.tmp 40) 36 rfl w.heap.size 5 i0 (.int .u8 0) Try.underlying36 hi0 hz0 hz1 hz2 rfl _ (outB l (i / 2)) rfl hown (16 * A + B) (by omega) (by omega) rfl (by omega) hsz hbel ?_)
            intro v1 w1 q hq hown1 hbel1 hv1
            have HQ : Hid (q = outB l ((i + 2) / 2)) := by
              have e3 : (i + 2) / 2 = i / 2 + 1 := by omega
              unfold Hid
              rw [hq.out, HF.out, e3, outB_succ]
            go_wp2
            go_roundw
            case rel => exact ⟨i + 2, by have := HI.out; unfold Hid; omega, by omega, HG2, by go_num, by rw [← HQ.out]; exact hown1, hbel1, hv1⟩
            case measure => simp [intOf]; omega
      · have hge : (s.size : Int) ≤ i := by omega
        have hie : i = s.size := by omega
        have hyes := Lib.hid (show DhR l (outB l (i / 2)) true from .inr (.inl ⟨by rw [HLn.out]; exact HE.out, by rw [HLn.out, ← hie]; exact HG.out, by rw [HLn.out, ← hie], rfl⟩))
        clear hie
        obtain ⟨q, hq⟩ : ∃ q, q = outB l (i / 2) := ⟨_, rfl⟩
        rw [← hq] at hown hyes
        clear hq hlen
        obtain ⟨g, cap, rfl, hcv⟩ := own_string (P := Try.prog) (src := 36) (dst := 9) hown hv0 Try.underlying36 Try.underlying5 Try.underlying9
        go_wp2
        go_ret2
        exact DHpost.mk q true hyes.out hbel
end Go.Proofs.Ytfcbpegpgmcjhaa
