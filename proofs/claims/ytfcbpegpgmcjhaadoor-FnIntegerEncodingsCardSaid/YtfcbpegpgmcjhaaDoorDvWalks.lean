/- Walks over DecodeVarint. -/
import Derived.Test.YtfcbpegpgmcjhaaDoorEvWalks
import Derived.Test.YtfcbpegpgmcjhaaDoorDvPlain
import Derived.Lib.Strings
import Derived.BigQuiet
import Derived.Deep.QuietTactic
import Derived.Deep.RegionWith
namespace Go.Proofs.YtfcbpegpgmcjhaaDoor
open Go.RowKit

def DVpost (R : Nat → Nat → Prop) (w : World) (e : Ending) (w' : World) : Prop := ∃ a b : Nat, R a b ∧ e = .returned (.tuple #[.int .i64 a, .int .i64 b]) ∧ Below w.heap.size w w'

theorem DVpost.mk {R : Nat → Nat → Prop} {w w' : World} (a b : Nat) (h : R a b) (hb : Below w.heap.size w w') : DVpost R w (.returned (.tuple #[.int .i64 a, .int .i64 b])) w' := ⟨a, b, h, rfl, hb⟩

def noTo (l : List UInt8) (k : Nat) : Prop := ∀ j, 1 ≤ j → j < k → j ≤ 7 → j ≤ l.length → ¬ okAt l j

def dvAt (l : List UInt8) (k j : Nat) : Nat := dv ((l.take k).drop j)

theorem dvAt_step (s : ByteArray) (k j : Nat) (hj : j < k) (hk : k ≤ s.size) (l : List UInt8) (hl : l = s.data.toList) : dvAt l k j = dvAt l k (j + 1) * 128 + (s[j]'(by omega)).toNat % 128 := by
  subst hl
  unfold dvAt
  have h1 : j < (s.data.toList.take k).length := by simp; omega
  rw [List.drop_eq_getElem_cons h1, dv_cons]
  congr 2
  simp
  rfl

theorem dvAt_le6 (l : List UInt8) (k j : Nat) (h7 : k ≤ 7) : dvAt l k (j + 1) ≤ 4398046511103 := dv_le6 _ (by simp; omega)

theorem dvAt_le7 (l : List UInt8) (k : Nat) (h7 : k ≤ 7) : dvAt l k 0 ≤ 562949953421311 := dv_le7 _ (by simp; omega)

theorem dvAt_0 (l : List UInt8) (k : Nat) : dvAt l k 0 = dv (l.take k) := rfl

theorem dvAt_top (l : List UInt8) (k : Nat) : dvAt l k k = 0 := by unfold dvAt; rw [List.drop_take]; simp [dv]

theorem ok_of_true (s : ByteArray) (k N : Nat) (l : List UInt8) (hl : l = s.data.toList) (hN : dvAt l k 0 = N) (h : (vint 6 N == (s.extract 0 k).toList) = true) : okAt l k := by
  subst hl; subst hN
  have h := eq_of_beq h
  rw [Lib.toList_data, Lib.extract_data] at h
  exact h

theorem no_of_false (s : ByteArray) (k N : Nat) (l : List UInt8) (hl : l = s.data.toList) (hN : dvAt l k 0 = N) (h : (vint 6 N == (s.extract 0 k).toList) = false) : ¬ okAt l k := by
  subst hl; subst hN
  have h := ne_of_beq_false h
  rw [Lib.toList_data, Lib.extract_data] at h
  exact h

theorem step_dv (n : Nat) (c : UInt8) (h : n ≤ 4398046511103) : wrap64 ((n : Int) * 128 + (wrap64 (c.toNat : Int)).tmod 128) = ((n * 128 + c.toNat % 128 : Nat) : Int) := by
  have := c.toNat_lt
  rw [w64_byte, Int.tmod_eq_emod_of_nonneg (by omega)]
  unfold wrap64; omega

theorem nott {b : Bool} (h : (!b) = true) : b = false := by simpa using h

theorem nott' {b : Bool} (h : (!b) = false) : b = true := by simpa using h

theorem or_comm64 (x y : Int) : bits .or .i64 x y = bits .or .i64 y x := by unfold bits; simp only [BitVec.or_comm]

theorem join7 (i n r : Nat) (h7 : i < 7) (hn : n < 128 ^ i) (hr : r < 128) : bits .or .i64 (n : Int) (wrap64 ((r : Int) * 2 ^ (7 * i))) = ((n + r * 128 ^ i : Nat) : Int) := by
  have e2 : (2 : Int) ^ (7 * i) = ((128 ^ i : Nat) : Int) := by rw [Int.pow_mul]; simp
  have hp1 : 0 < 128 ^ i := Nat.pow_pos (by omega)
  have hp2 : 128 ^ i ≤ 128 ^ 6 := Nat.pow_le_pow_right (by omega) (by omega)
  have hp3 : (128 : Nat) ^ 6 = 4398046511104 := by decide
  have hm : r * 128 ^ i ≤ 127 * 128 ^ i := Nat.mul_le_mul_right _ (by omega)
  have hx : ((r : Int) * 2 ^ (7 * i)) = ((r * 128 ^ i : Nat) : Int) := by rw [e2]; simp
  have hz : ((r * 128 ^ i : Nat) : Int) % 2 ^ (7 * i) = 0 := by rw [← hx]; exact Int.mul_emod_left _ _
  have hy : ((n : Nat) : Int) < 2 ^ (7 * i) := by rw [e2]; omega
  rw [hx]
  generalize r * 128 ^ i = X at *
  have hw : wrap64 (X : Int) = X := by unfold wrap64; omega
  rw [hw, or_comm64, bits_join .i64 63 (by decide) i64w' (7 * i) X n (by omega) hz (by omega) (by omega) hy (by omega)]
  omega

theorem u8_and127 (c : UInt8) : bits .and .u8 (c.toNat : Int) 127 = (c.toNat : Int) % 128 :=
  bits_mask .u8 8 (by decide) wraps_u8 7 (by decide) _ (by omega) (by have := c.toNat_lt; omega)

theorem step_idv (s : ByteArray) (i : Nat) (l : List UInt8) (hl : l = s.data.toList) (h7 : i < 7) (hi : i < s.size) :
    bits .or .i64 (dv (l.take i) : Nat) (wrap64 (wrap64 (bits .and .u8 ((s[i].toNat : Nat) : Int) 127) * 2 ^ (7 * i))) = ((dv (l.take (i + 1)) : Nat) : Int) := by
  have hc : l.take (i + 1) = l.take i ++ [s[i]] := by subst hl; exact take_snoc s i hi
  have hlen : (l.take i).length = i := by subst hl; simp; omega
  rw [hc, dv_snoc, hlen, u8_and127]
  have hd := dv_lt (l.take i)
  rw [hlen] at hd
  have hb : ((s[i].toNat : Nat) : Int) % 128 = ((s[i].toNat % 128 : Nat) : Int) := by omega
  rw [hb]
  have hr : s[i].toNat % 128 < 128 := by omega
  generalize s[i].toNat % 128 = r at hr ⊢
  generalize dv (l.take i) = n at hd ⊢
  have e0 : wrap64 (r : Int) = r := by unfold wrap64; omega
  rw [e0]
  exact join7 i n r h7 hd hr

set_option maxHeartbeats 1000000 in
set_option maxRecDepth 100000 in
theorem implDV (s : ByteArray) (w : World) (hs : (s.size : Int) ≤ 1048576) : Calls Tryd.prog 10 #[.string s] w (DVpost (ImplR s.data.toList) w) := by
  obtain ⟨l, hl⟩ : ∃ l, l = s.data.toList := ⟨_, rfl⟩
  rw [← hl]
  have HLn := Lib.hid (show l.length = s.size by rw [hl]; simp)
  have HL := Lib.hid hl
  clear hl
  by_cases hm : (7 : Int) < s.size
  all_goals
    go_enter Tryd.func10, Tryd.ntmps10
    go_wp2
    go_loopw [4, 5, 9] (fun n _ c wr => ∃ i : Nat, i ≤ 7 ∧ i ≤ s.size ∧ hiTo l i ∧ c = .int .i64 i ∧ n = .int .i64 (dv (l.take i)) ∧ Below w.heap.size w wr) (fun _ _ c _ => 8 - (intOf c).toNat)
    case atStart => exact ⟨0, by omega, by omega, fun j h1 h2 => by omega, rfl, rfl, Below.refl _ _⟩
    case round =>
      obtain ⟨i, h7, hk, hno, rfl, rfl, hbel⟩ := hrel
      have HNO := Lib.hid hno
      clear hno
      by_cases hlt : i < 7 ∧ i < s.size
      · obtain ⟨h7', hks⟩ := hlt
        have hst := Lib.hid (step_idv s i l HL.out h7' hks)
        have hgi : l[i]'(by rw [HLn.out]; exact hks) = s[i] := by have := HL.out; subst this; rfl
        have HGI := Lib.hid hgi
        clear hgi
        go_wp2
        · go_roundw
          case rel => exact ⟨i + 1, by omega, by omega, fun j hj hji => by
            by_cases e : j = i
            · subst e; rw [HGI.out]; have : (128 : Int) ≤ (s[j].toNat : Int) := by assumption
              omega
            · exact HNO.out j hj (by omega), by go_num, by rw [hst.out], hbel⟩
          case measure => simp [intOf]; omega
        · rw [hst.out]
          have hlo : s[i].toNat < 128 := by have : (s[i].toNat : Int) < 128 := by assumption
                                            omega
          have HLO := Lib.hid hlo
          clear hlo
          have hb : ((dv (l.take (i + 1)) : Nat) : Int) ≤ 562949953421311 := by have := dv_le7 (l.take (i + 1)) (by simp; omega); omega
          generalize hN : dv (l.take (i + 1)) = N at hb ⊢
          have HN := Lib.hid hN
          clear hN hst
          have hks1 : i + 1 ≤ s.size := hks
          have hks2 : (i : Int) + 1 ≤ (s.size : Int) := by omega
          have q1 : IntKind.i64.wrap ((i : Int) + 1) = (i : Int) + 1 := IntWalk.i64_in _ (by omega)
          have q2 : 0 ≤ (i : Int) + 1 := by omega
          have q3 : ((i : Int) + 1).toNat = i + 1 := by omega
          go_region_with (go_at_call 9; refine (implEV_good _ _ hb).mono ?_; rintro e w1 ⟨rfl, hb1⟩)
          go_wp2
          · have hok := no_of_false s (i + 1) N l HL.out HN.out (nott (by assumption))
            go_ret2
            exact DVpost.mk 0 0 (.inr (.inl ⟨i, by rw [HLn.out]; exact hks, h7', by rw [HGI.out]; exact HLO.out, HNO.out, hok, rfl, rfl⟩)) (hbel.drew.trans (hb1.mono hbel.size))
          · have hok := ok_of_true s (i + 1) N l HL.out HN.out (nott' (by assumption))
            go_ret2
            exact DVpost.mk N (i + 1) (.inl ⟨i, h7', by rw [HLn.out]; exact hks, hok, HN.out.symm, rfl⟩) (hbel.drew.trans (hb1.mono hbel.size))
      · have he : i = 7 ∨ i = s.size := by omega
        have HE := Lib.hid he
        have hge : (7 : Int) ≤ i ∨ (s.size : Int) ≤ i := by omega
        clear he
        go_wp2
        go_ret2
        exact DVpost.mk 0 0 (.inr (.inr ⟨fun j hj hj7 => HNO.out j hj (by have := HE.out; have := HLn.out; omega), rfl, rfl⟩)) hbel

end Go.Proofs.YtfcbpegpgmcjhaaDoor
