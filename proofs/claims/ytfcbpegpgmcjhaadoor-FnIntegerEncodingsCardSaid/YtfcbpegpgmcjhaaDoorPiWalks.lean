/- Walks over ParseInt of the model. -/
import Derived.Test.YtfcbpegpgmcjhaaDoorFiWalks
import Derived.Test.YtfcbpegpgmcjhaaDoorPiPlain
import Derived.Lib.Strings
namespace Go.Proofs.YtfcbpegpgmcjhaaDoor
open Go.RowKit

def PIpost (R : Int → Bool → Prop) (w : World) (e : Ending) (w' : World) : Prop := ∃ a b, R a b ∧ e = .returned (.tuple #[.int .i64 a, .bool b]) ∧ Below w.heap.size w w'

theorem PIpost.mk {R : Int → Bool → Prop} {w w' : World} (a : Int) (b : Bool) (h : R a b) (hb : Below w.heap.size w w') : PIpost R w (.returned (.tuple #[.int .i64 a, .bool b])) w' := ⟨a, b, h, rfl, hb⟩

theorem valN_le (l : List UInt8) (h : l.length ≤ 10) : (valN l : Int) ≤ 9999999999 := by
  have h1 := valN_lt l
  have h2 : 10 ^ l.length ≤ 10 ^ 10 := Nat.pow_le_pow_right (by omega) h
  have h3 : (10 : Nat) ^ 10 = 10000000000 := by decide
  omega

set_option maxHeartbeats 1000000 in
set_option maxRecDepth 100000 in
theorem specPI (s : ByteArray) (w : World) (hs : (s.size : Int) ≤ 1048576) : Calls Tryd.prog 20 #[.string s] w (PIpost (PiR s.data.toList) w) := by
  obtain ⟨l, hl⟩ : ∃ l, l = s.data.toList := ⟨_, rfl⟩
  rw [← hl]
  have HLn := Lib.hid (show l.length = s.size by rw [hl]; simp)
  have HL := Lib.hid hl
  clear hl
  go_enter Tryd.func20, Tryd.ntmps20
  go_wp2
  go_loop [4, 5, 6] (fun n k i => ∃ j : Nat, j ≤ 11 ∧ j ≤ s.size ∧ i = .int .i64 j ∧ n = .int .i64 (valN (l.take j)) ∧ k = .int .i64 (cntN (l.take j))) (fun _ _ i => 11 - (intOf i).toNat)
  case atStart => exact ⟨0, by omega, by omega, rfl, rfl, rfl⟩
  case round =>
    obtain ⟨j, h11, hjs, rfl, rfl, rfl⟩ := hrel
    by_cases hlt : j < 11 ∧ j < s.size
    · obtain ⟨hj, hjs'⟩ := hlt
      have hv := valN_le (l.take j) (by simp; omega)
      have hc : cntN (l.take j) ≤ 11 := Nat.le_trans (cntN_le _) (by simp; omega)
      have HT := Lib.hid (show l.take (j + 1) = l.take j ++ [s[j]] by have := HL.out; subst this; exact take_snoc s j hjs')
      have HV := Lib.hid (show valN (l.take (j + 1)) = valStep (valN (l.take j)) s[j] by rw [HT.out, valN_snoc])
      have HC := Lib.hid (show cntN (l.take (j + 1)) = cntN (l.take j) + if isDig s[j] then 1 else 0 by rw [HT.out, cntN_snoc])
      go_wp2
      · have g1 : (48 : Int) ≤ (s[j].toNat : Int) := by assumption
        have g2 : (s[j].toNat : Int) ≤ 57 := by assumption
        have hd := isDig_yes s[j] g1 g2
        go_round
        case rel => exact ⟨j + 1, by omega, by omega, by go_num, by rw [HV.out, ← step_yes _ _ hd g1], by rw [HC.out, hd]; go_num⟩
        case measure => simp [intOf]; omega
      · have g2 : (57 : Int) < (s[j].toNat : Int) := by assumption
        have hd := isDig_hi s[j] g2
        go_round
        case rel => exact ⟨j + 1, by omega, by omega, by go_num, by rw [HV.out, step_no _ _ hd], by rw [HC.out, hd]; rfl⟩
        case measure => simp [intOf]; omega
      · have g2 : ¬ (48 : Int) ≤ (s[j].toNat : Int) := by assumption
        have hd := isDig_lo s[j] g2
        go_round
        case rel => exact ⟨j + 1, by omega, by omega, by go_num, by rw [HV.out, step_no _ _ hd], by rw [HC.out, hd]; rfl⟩
        case measure => simp [intOf]; omega
    · have hend : (s.size : Int) ≤ j ∨ (11 : Int) ≤ j := by omega
      have HJ := Lib.hid (show l.length ≤ j ∨ 11 ≤ j by rw [HLn.out]; omega)
      have hv := valN_le11 l j h11
      by_cases hc : (9 : Int) < (cntN (l.take j) : Int)
      · have hno := Lib.hid (PiR_no1 HJ.out (by omega))
        go_wp2
        all_goals go_ret2
        all_goals exact PIpost.mk 0 false hno.out (Below.refl _ _)
      · by_cases hz : (10 : Int) < (s.size : Int)
        · have hno := Lib.hid (PiR_no2 (l := l) (by rw [HLn.out]; omega))
          go_wp2
          all_goals go_ret2
          all_goals exact PIpost.mk 0 false hno.out (Below.refl _ _)
        · have hc' : (cntN (l.take j) : Int) ≤ 9 := by omega
          have hz' : (s.size : Int) ≤ 10 := by omega
          have HC := Lib.hid (show cntN (l.take j) ≤ 9 by omega)
          have HZ := Lib.hid (show l.length ≤ 10 by rw [HLn.out]; omega)
          clear hc hz
          obtain ⟨V, hV⟩ : ∃ V, V = valN (l.take j) := ⟨_, rfl⟩
          rw [← hV] at hv ⊢
          have HV := Lib.hid hV
          clear hV
          by_cases h0 : s.size = 0
          · have hm := minus_nil l (by rw [HLn.out]; exact h0)
            have h0' : (s.size : Int) ≤ 0 := by omega
            have HM := Lib.hid hm
            clear h0 hm
            have hn := Lib.hid (sgn_no HM.out V)
            by_cases he : (Lib.itoa ((V : Int)) == s.toList) = true
            · have hr := Lib.hid (PiR_yes HJ.out HC.out HZ.out (eq_of_beq_str HL.out he))
              go_wp2_with (go_at_call 19; refine (specFI ((V : Int)) _ (by omega) (by omega)).mono ?_; rintro e w1 ⟨rfl, hb1⟩)
              go_ret2
              exact PIpost.mk ((V : Int)) true hr.out hb1
            · have he := eq_false_of_ne_true he
              have hr := Lib.hid (PiR_no3 HJ.out (by rw [← HV.out]; exact hn.out) (ne_of_beq_str HL.out he))
              go_wp2_with (go_at_call 19; refine (specFI ((V : Int)) _ (by omega) (by omega)).mono ?_; rintro e w1 ⟨rfl, hb1⟩)
              go_ret2
              exact PIpost.mk 0 false hr.out hb1
          · have h0' : 0 < s.size := by omega
            have h0'' : (0 : Int) < s.size := by omega
            have hm := minus_of s l HL.out h0'
            clear h0
            cases hb : (((s[0].toNat : Nat) : Int) == 45)
            · have HM := Lib.hid (hm.trans hb)
              clear hm
              have hn := Lib.hid (sgn_no HM.out V)
              by_cases he : (Lib.itoa ((V : Int)) == s.toList) = true
              · have hr := Lib.hid (PiR_yes HJ.out HC.out HZ.out (eq_of_beq_str HL.out he))
                go_wp2_with (go_at_call 19; refine (specFI ((V : Int)) _ (by omega) (by omega)).mono ?_; rintro e w1 ⟨rfl, hb1⟩)
                go_ret2
                exact PIpost.mk ((V : Int)) true hr.out hb1
              · have he := eq_false_of_ne_true he
                have hr := Lib.hid (PiR_no3 HJ.out (by rw [← HV.out]; exact hn.out) (ne_of_beq_str HL.out he))
                go_wp2_with (go_at_call 19; refine (specFI ((V : Int)) _ (by omega) (by omega)).mono ?_; rintro e w1 ⟨rfl, hb1⟩)
                go_ret2
                exact PIpost.mk 0 false hr.out hb1
            · have HM := Lib.hid (hm.trans hb)
              clear hm
              have hn := Lib.hid (sgn_yes HM.out V)
              by_cases he : (Lib.itoa (-(V : Int)) == s.toList) = true
              · have hr := Lib.hid (PiR_yes HJ.out HC.out HZ.out (eq_of_beq_str HL.out he))
                go_wp2_with (go_at_call 19; refine (specFI (-(V : Int)) _ (by omega) (by omega)).mono ?_; rintro e w1 ⟨rfl, hb1⟩)
                go_ret2
                exact PIpost.mk (-(V : Int)) true hr.out hb1
              · have he := eq_false_of_ne_true he
                have hr := Lib.hid (PiR_no3 HJ.out (by rw [← HV.out]; exact hn.out) (ne_of_beq_str HL.out he))
                go_wp2_with (go_at_call 19; refine (specFI (-(V : Int)) _ (by omega) (by omega)).mono ?_; rintro e w1 ⟨rfl, hb1⟩)
                go_ret2
                exact PIpost.mk 0 false hr.out hb1
end Go.Proofs.YtfcbpegpgmcjhaaDoor
