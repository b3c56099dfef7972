/- spec.AvoidingPath. -/
import Derived.Test.YtgfndgjabhabjacDoorAs
import Derived.Test.YtgfndgjabhabjacDoorAr0
namespace Go.Proofs.YtgfndgjabhabjacDoor
set_option linter.unusedVariables false
set_option linter.unusedSimpArgs false
open Go.RowKit

/-- A slice's length. -/
def lenV : Value → Nat
  | .slice _ n _ => n
  | _ => 0

set_option maxHeartbeats 8000000 in
set_option maxRecDepth 100000 in
theorem avo_rest (n : Int) (v : Value) (lg : List Int) (A B C : Nat) (w : World) (h : Ints w v lg) (hg : IsG n lg) (hA : A < lg.length) (hB : B < lg.length) (hC : C < lg.length) :
    Calls Tryd.prog 29 #[.agg #[.int .i64 n, v], .int .i64 A, .int .i64 B, .int .i64 C] w (GetsLB w.heap.size w (wayR (rowN lg) (awayN lg C) A B lg.length)) := by
  obtain ⟨i0, hi, hz0, hz1, hz2⟩ := info_parts infoInt
  obtain ⟨ad, cap, rfl, -, -⟩ := h.form
  have HI := Lib.hid h
  have HG := Lib.hid hg
  have HAX := argG' (T := 29) (n := n) h
  have hn7 := hg.2.1
  have hn1 := hg.1
  have hnl := hg.2.2.1
  have hm7 : lg.length ≤ 7 := by omega
  have hle : (lg.length : Int) ≤ n := by omega
  have hge : n ≤ (lg.length : Int) := by omega
  have hnt : n.toNat = lg.length := by omega
  have HSY : Hid (∀ u v, u < lg.length → v < lg.length → (rowN lg u).testBit v = (rowN lg v).testBit u) := fun u v hu hv => hg.row_sym u v hu hv
  have HRL : Hid (∀ u, u < lg.length → rowN lg u < 2 ^ lg.length) := fun u hu => (hg.row_lt u hu).1
  have HED : Hid (∀ u v, u < lg.length → (edB lg u v = true ↔ (rowN lg u).testBit v = true)) := fun u v hu => by
    rw [edB_iff, (hg.row_lt u hu).2]; exact bitAt_nat _ v
  obtain ⟨k1, -, k3, k4, k5⟩ := away_facts hg hC
  obtain ⟨R, hR⟩ : ∃ R, R = rowN lg := ⟨_, rfl⟩
  have HRR := Lib.hid hR
  obtain ⟨S, hS⟩ : ∃ S, S = awayN lg C := ⟨_, rfl⟩
  obtain ⟨Q, hQ⟩ : ∃ Q, Q = aroundN (rowN lg) (2 ^ C) := ⟨_, rfl⟩
  rw [← hS] at k3 k4 ⊢
  rw [← hQ] at k1 k3 k5
  rw [← hR] at HSY HRL HED ⊢
  obtain ⟨RES, hRES⟩ : ∃ r, r = wayR R S A B lg.length := ⟨_, rfl⟩
  have HRES := Lib.hid hRES
  rw [← hRES]
  obtain ⟨s1, s2, s3, s4, s5⟩ := shl_one' C (by omega)
  obtain ⟨P, hP⟩ : ∃ P : Int, P = 2 ^ C := ⟨_, rfl⟩
  rw [← hP] at s1 s2 s3 s4 s5 k1
  have f1 : (2 : Int) ^ C = P := hP.symm
  obtain ⟨b1, b2, b3, b4, b5⟩ := shl_one' B (by omega)
  have hPBn : (2 : Int) ^ B = ((2 ^ B : Nat) : Int) := by push_cast; rfl
  obtain ⟨PB, hPB⟩ : ∃ x : Nat, x = 2 ^ B := ⟨_, rfl⟩
  rw [← hPB] at hPBn
  rw [hPBn] at b1 b2 b3 b4 b5
  have HPB := Lib.hid hPB
  obtain ⟨t1, t2, t3, t4, t5⟩ := shl_one n (by omega) (by omega)
  obtain ⟨M, hM⟩ : ∃ M : Int, M = 2 ^ n.toNat := ⟨_, rfl⟩
  rw [← hM] at t1 t2 t3 t4 t5 k3
  have f2 : (2 : Int) ^ n.toNat = M := hM.symm
  have hS7 : S < 128 := Nat.lt_of_lt_of_le k4 (two_le _ hm7)
  have hQ7 : Q < 128 := Nat.lt_of_lt_of_le k5 (two_le _ hm7)
  have g1 : IntKind.i64.wrap (M - 1) = M - 1 := IntWalk.i64_in _ (by omega)
  have g2 : IntKind.i64.wrap (M - 1 - (Q : Int)) = (S : Int) := (IntWalk.i64_in _ (by omega)).trans k3
  have g3 : M - 1 - (Q : Int) = (S : Int) := k3
  have g1' : wrap64 (M - 1) = M - 1 := IntWalk.wrap64_in _ (by omega)
  have g2' : wrap64 (M - 1 - (Q : Int)) = (S : Int) := (IntWalk.wrap64_in _ (by omega)).trans k3
  have HSL := Lib.hid k4
  have HAR : Hid (∀ W, Ints W (.slice ad lg.length cap) lg → Calls Tryd.prog 52 #[.agg #[.int .i64 n, .slice ad lg.length cap], .int .i64 P] W fun e w' => e = .returned (.int .i64 Q) ∧ Below W.heap.size W w') := fun W hW => by rw [← k1]; exact specAround n _ lg P _ hW
  have u1 : IntKind.i64.wrap (n - 1) = n - 1 := IntWalk.i64_in _ (by omega)
  clear h hg hR hS hQ hRES hP hPB hM k1 k4 k5 hnt hnl
  go_enter Tryd.func29, Tryd.ntmps29
  go_wp2_with fail
  refine (specIsG_any n _ lg _ (HI.out.alloc _)).mono ?_
  rintro e w1 ⟨r, rfl, hr, hb⟩
  obtain rfl : r = true := hr.2 HG.out
  have HB1 := Lib.hid (hb.mono (B' := w.heap.size + 1) (by simp))
  clear hb hr
  obtain ⟨c0, c1, -, -, -⟩ := HAX.out _ HB1.out
  go_wp2_with fail
  refine (l1In_yes' (A : Int) 0 (n - 1) _ (by omega) (by omega)).mono ?_
  rintro e w2 ⟨rfl, rfl⟩
  go_wp2_with fail
  refine (l1In_yes' (B : Int) 0 (n - 1) _ (by omega) (by omega)).mono ?_
  rintro e w3 ⟨rfl, rfl⟩
  go_wp2_with fail
  refine (l1In_yes' (C : Int) 0 (n - 1) _ (by omega) (by omega)).mono ?_
  rintro e w4 ⟨rfl, rfl⟩
  have hz1' : w.heap.size + 1 ≤ w1.heap.size := by have := HB1.out.size; simpa using this
  clear c0 c1
  have hx0 : ∀ X : Since w1, X.val.cell? ⟨w.heap.size, 0, none⟩ = some (.int .i64 n) := fun X => (HAX.out _ (HB1.out.trans (X.prop.mono hz1'))).1
  have hx1 : ∀ X : Since w1, X.val.cell? ⟨w.heap.size, 1, none⟩ = some (.slice ad lg.length cap) := fun X => (HAX.out _ (HB1.out.trans (X.prop.mono hz1'))).2.1
  have HXI : Hid (∀ X : Since w1, Ints X.val (.slice ad lg.length cap) lg) := fun X => (HAX.out _ (HB1.out.trans (X.prop.mono hz1'))).2.2.1
  have hC64 : C < 64 := by omega
  go_wp2
  refine wp_region_since (by kernel_rfl) (by kernel_rfl) ?_
  repeat (go_big_quiet_step (with_reducible exact since_call (HAR.out _ (HXI.out _))))
  refine wpQuiet_nil ?_
  intro X
  have HB2 := Lib.hid (HB1.out.trans (X.prop.mono hz1'))
  obtain ⟨wx, hwx⟩ : ∃ wx, wx = X.val := ⟨_, rfl⟩
  rw [← hwx] at HB2 ⊢
  clear hwx hx0 hx1
  have hz2' : w.heap.size + 1 ≤ wx.heap.size := by have := HB2.out.size; simpa using this
  have HCB2 := Lib.hid (HAX.out _ HB2.out).2.2.2.1
  have hA64 : A < 64 := by omega
  have hB64 : B < 64 := by omega
  obtain ⟨ta, hta⟩ : ∃ t, t = bitAt (S : Int) A := ⟨_, rfl⟩
  have ea : bits .and .i64 ((S : Int) / 2 ^ A) 1 = ta := by rw [hta]; exact and_one_bit _ A
  have za : ta = 0 ∨ ta = 1 := by rw [hta]; exact bitAt_two _ _
  have HTA : Hid (ta = 1 ↔ S.testBit A = true) := by rw [hta]; exact bitAt_nat S A
  obtain ⟨tb, htb⟩ : ∃ t, t = bitAt (S : Int) B := ⟨_, rfl⟩
  have eb : bits .and .i64 ((S : Int) / (PB : Int)) 1 = tb := by rw [htb, ← hPBn]; exact and_one_bit _ B
  have zb : tb = 0 ∨ tb = 1 := by rw [htb]; exact bitAt_two _ _
  have HTB : Hid (tb = 1 ↔ S.testBit B = true) := by rw [htb]; exact bitAt_nat S B
  clear hta htb
  have HEZ := Lib.hid (OwnI.lit0 wx w.heap.size HCB2.out.size)
  have HEW := Lib.hid (HCB2.out.alloc HCB2.out.size (.cells #[] 3))
  rcases za with rfl | rfl
  · have HN := Lib.hid (show RES = none by
      rw [HRES.out]; unfold wayR
      rw [if_neg (fun h => absurd (HTA.out.2 h.1) (by decide))])
    go_wp2
    go_ret2
    exact ⟨_, by rw [HN.out]; rfl, by rw [HN.out]; exact HEZ.out, HEW.out⟩
  rcases zb with rfl | rfl
  · have HN := Lib.hid (show RES = none by
      rw [HRES.out]; unfold wayR
      rw [if_neg (fun h => absurd (HTB.out.2 h.2) (by decide))])
    go_wp2
    go_ret2
    exact ⟨_, by rw [HN.out]; rfl, by rw [HN.out]; exact HEZ.out, HEW.out⟩
  have HSA := Lib.hid (HTA.out.1 (by first | rfl | trivial))
  have HSB := Lib.hid (HTB.out.1 (by first | rfl | trivial))
  have hbs : Sub (2 ^ B) S := by
    have h1 := and_sub_bit S B
    rw [and_bit, HSB.out] at h1
    exact h1
  have HBS := Lib.hid hbs
  have HIT : Hid (∀ i, itN R S (2 ^ B) i < 2 ^ lg.length ∧ itN R S (2 ^ B) i < 128) := fun i => by
    have h2 := sub_le (it_sub (R := R) hbs i)
    exact ⟨Nat.lt_of_le_of_lt h2 HSL.out, Nat.lt_of_le_of_lt h2 hS7⟩
  have HE0 := Lib.hid (OwnI.lit0 wx (w.heap.size + 1) hz2')
  have HB3 := Lib.hid (HB2.out.alloc hz2' (.cells #[] 3))
  clear hbs HEZ HEW HTA HTB s1 s2 s3 s4 s5 t1 t2 t3 t4 t5 f1 f2 g1 g2 g3 g1' g2' u1 k3 hQ7
  go_wp2
  clear ea eb
  go_loopw [11, 12] (fun s x wr => ∃ j : Nat, j ≤ lg.length ∧ x = .int .i64 j ∧ Hid (OwnI (w.heap.size + 1) wr s (List.replicate j (-1))) ∧ Below (w.heap.size + 1) (w.alloc (.cells #[.int .i64 n, .slice ad lg.length cap] 29)) wr) (fun _ x _ => lg.length - (intOf x).toNat)
  case atStart => exact ⟨0, by omega, rfl, HE0.out, HB3.out⟩
  case round =>
    clear HE0 HB3
    obtain ⟨j, hj, rfl, HO, hbel⟩ := hrel
    have HBL := Lib.hid hbel
    have hzr : w.heap.size + 1 ≤ wr.heap.size := by have := hbel.size; simpa using this
    obtain ⟨c0, c1, -, -, -⟩ := HAX.out _ hbel
    clear hbel
    by_cases hlt : j < lg.length
    · have hjt : decide ((j : Int) < n) = true := decide_eq_true (by omega)
      have hll : (List.replicate j (-1 : Int)).length + 1 ≤ 1000000000 := by rw [List.length_replicate]; omega
      go_wp2_with (at_builtin; refine wpList_append_int rfl (.tmp 76) (.tmp 77) 22 rfl (w.heap.size + 1) i0 Tryd.underlying22 hi hz0 hz1 hz2 _ (List.replicate j (-1)) rfl HO.out (-1) (by omega) (by omega) rfl hll hzr ?_)
      intro v2 w3 ho2 hg2 hne2
      have HO2 := Lib.hid (show OwnI (w.heap.size + 1) w3 v2 (List.replicate (j + 1) (-1)) by rw [List.replicate_succ']; exact ho2)
      have HB4 := Lib.hid ((HBL.out.alloc hzr (.cells #[.int .i64 (-1)] 3)).grown hg2 (by rw [World.size_alloc]; omega) (fun q hq => (HO.out.lt q hq).1))
      clear ho2 hg2 hne2
      go_wp2
      go_roundw
      case rel => exact ⟨j + 1, by omega, by go_num, HO2.out, HB4.out⟩
      case measure => simp [intOf]; omega
    · obtain rfl : j = lg.length := by omega
      have hjf : decide ((lg.length : Int) < n) = false := decide_eq_false (by omega)
      obtain ⟨wo, rfl⟩ : ∃ wo, wo = wr := ⟨_, rfl⟩
      obtain ⟨hsn, hln⟩ | ⟨g, capf, hs9, hgB, hgl, hcap, hmx, -, -⟩ := HO.out.form
      · have h9 := congrArg List.length hln
        rw [List.length_replicate, List.length_nil] at h9
        omega
      rw [List.length_replicate] at hs9 hcap
      subst hs9
      have HF0 := Lib.hid (show OwnI (w.heap.size + 1) wo (.slice (some ⟨g, 0, none⟩) lg.length capf) (flL R S B lg.length 0 0) by rw [flL_start]; exact HO.out)
      clear HO
      go_wp2
      clear c0 c1
      go_loopw [13, 14] (fun r x wr => ∃ m : Nat, m ≤ lg.length ∧ x = .int .i64 m ∧ r = .int .i64 (itN R S (2 ^ B) m : Nat) ∧ Hid (OwnI (w.heap.size + 1) wr (.slice (some ⟨g, 0, none⟩) lg.length capf) (flL R S B lg.length m 0)) ∧ Below (w.heap.size + 1) (w.alloc (.cells #[.int .i64 n, .slice ad lg.length cap] 29)) wr) (fun _ x _ => lg.length - (intOf x).toNat)
      case atStart => exact ⟨0, by omega, rfl, by rw [HPB.out]; rfl, HF0.out, HBL.out⟩
      case round =>
        clear HF0 HBL
        obtain ⟨m, hm, rfl, rfl, HO, hbel⟩ := hrel
        have HBL := Lib.hid hbel
        have hzr : w.heap.size + 1 ≤ wr.heap.size := by have := hbel.size; simpa using this
        obtain ⟨c0, c1, -, -, -⟩ := HAX.out _ hbel
        clear hbel
        obtain ⟨Y, hY⟩ : ∃ Y, Y = itN R S (2 ^ B) m := ⟨_, rfl⟩
        rw [← hY]
        have hY2 := (HIT.out m).1
        have hY7 := (HIT.out m).2
        rw [← hY] at hY2 hY7
        have HY := Lib.hid hY
        have HYL := Lib.hid hY2
        clear hY hY2
        by_cases hlm : m < lg.length
        · have hjt : decide ((m : Int) < n) = true := decide_eq_true (by omega)
          go_wp2
          clear c0 c1
          go_loopw [15] (fun x wr => ∃ v : Nat, v ≤ lg.length ∧ x = .int .i64 v ∧ Hid (OwnI (w.heap.size + 1) wr (.slice (some ⟨g, 0, none⟩) lg.length capf) (flL R S B lg.length m v)) ∧ Below (w.heap.size + 1) (w.alloc (.cells #[.int .i64 n, .slice ad lg.length cap] 29)) wr) (fun x _ => lg.length - (intOf x).toNat)
          case atStart => exact ⟨0, by omega, rfl, HO.out, HBL.out⟩
          case round =>
            clear HO HBL
            obtain ⟨v, hv, rfl, HO, hbel⟩ := hrel
            have HBL := Lib.hid hbel
            have hzr : w.heap.size + 1 ≤ wr.heap.size := by have := hbel.size; simpa using this
            obtain ⟨c0, c1, -, -, -⟩ := HAX.out _ hbel
            clear hbel
            by_cases hlv : v < lg.length
            · have hvt : decide ((v : Int) < n) = true := decide_eq_true (by omega)
              have hv64 : v < 64 := by omega
              obtain ⟨t, ht⟩ : ∃ t, t = bitAt (Y : Int) v := ⟨_, rfl⟩
              have e1 : bits .and .i64 ((Y : Int) / 2 ^ v) 1 = t := by rw [ht]; exact and_one_bit _ v
              have z1 : t = 0 ∨ t = 1 := by rw [ht]; exact bitAt_two _ _
              have HT1 : Hid (t = 1 ↔ Y.testBit v = true) := by rw [ht]; exact bitAt_nat Y v
              clear ht
              rcases z1 with rfl | rfl
              · have HN := Lib.hid (flL_miss (R := R) (S := S) (b := B) (N := lg.length) (m := m) (v := v) (fun h => by rw [← HY.out] at h; exact absurd (HT1.out.2 h.1) (by decide)))
                go_wp2
                go_roundw
                case rel => exact ⟨v + 1, by omega, by go_num, by rw [← HN.out]; exact HO.out, HBL.out⟩
                case measure => simp [intOf]; omega
              · obtain ⟨d, hd⟩ : ∃ d, d = flK R S B m v := ⟨_, rfl⟩
                have hfl : nth (flL R S B lg.length m v) v = d := by rw [flL_nth _ _ _ _ _ _ _ hlv, if_neg (by omega), hd]
                obtain ⟨-, hn9⟩ | ⟨g', cp', hs9, -, hgl', -, hmx', hcl, hfz⟩ := HO.out.form
                · have h9 := flL_length R S B lg.length m v
                  rw [hn9, List.length_nil] at h9
                  omega
                rw [flL_length] at hs9
                simp only [Value.slice.injEq, Option.some.injEq, Addr.mk.injEq, and_true, true_and] at hs9
                obtain ⟨rfl, rfl⟩ := hs9
                have e2 := hcl v (by rw [flL_length]; exact hlv)
                rw [hfl] at e2
                have f2 := hfz v
                have HD := Lib.hid hd
                clear hcl hfz hd hfl
                by_cases h0 : d < 0
                · have q0 : decide (d < 0) = true := decide_eq_true h0
                  have HN := Lib.hid (flL_hit (R := R) (S := S) (b := B) (N := lg.length) (m := m) (v := v) hlv (by rw [← HY.out]; exact HT1.out.1 rfl) (by rw [← HD.out]; exact h0))
                  have HS : Hid (OwnI (w.heap.size + 1) (wr.setCell ⟨g, v, none⟩ (.int .i64 m)) (.slice (some ⟨g, 0, none⟩) lg.length capf) (flL R S B lg.length m (v + 1))) := by
                    have key : ∀ F : List Int, F.length = lg.length → OwnI (w.heap.size + 1) wr (.slice (some ⟨g, 0, none⟩) lg.length capf) F → OwnI (w.heap.size + 1) (wr.setCell ⟨g, v, none⟩ (.int .i64 m)) (.slice (some ⟨g, 0, none⟩) lg.length capf) (F.set v (m : Int)) := fun F hF h => by
                      rw [← hF] at h ⊢
                      exact (h.set v (m : Int) (by omega) (by omega)).1
                    have h3 := key _ (flL_length R S B lg.length m v) HO.out
                    rw [HN.out] at h3
                    exact h3
                  have HBS2 : Hid (Below (w.heap.size + 1) (w.alloc (.cells #[.int .i64 n, .slice ad lg.length cap] 29)) (wr.setCell ⟨g, v, none⟩ (.int .i64 m))) := HBL.out.setCell (by show w.heap.size + 1 ≤ g; omega) _
                  clear h0
                  go_wp2
                  go_roundw
                  case rel => exact ⟨v + 1, by omega, by go_num, HS.out, HBS2.out⟩
                  case measure => simp [intOf]; omega
                · have q0 : decide (d < 0) = false := decide_eq_false h0
                  have HN := Lib.hid (flL_miss (R := R) (S := S) (b := B) (N := lg.length) (m := m) (v := v) (fun h => h0 (by rw [HD.out]; exact h.2)))
                  clear h0
                  go_wp2
                  go_roundw
                  case rel => exact ⟨v + 1, by omega, by go_num, by rw [← HN.out]; exact HO.out, HBL.out⟩
                  case measure => simp [intOf]; omega
            · obtain rfl : v = lg.length := by omega
              have hvf : decide ((lg.length : Int) < n) = false := decide_eq_false (by omega)
              have HO2 := Lib.hid (show OwnI (w.heap.size + 1) wr (.slice (some ⟨g, 0, none⟩) lg.length capf) (flL R S B lg.length (m + 1) 0) by rw [← flL_done]; exact HO.out)
              have HC := Lib.hid (HAX.out _ HBL.out).2.2.1
              have hAY := Nat.lt_of_lt_of_le (around_lt HG.out HYL.out) (two_le _ hm7)
              rw [← HRR.out] at hAY
              have HAR2 := Lib.hid (show aroundR n lg (Y : Int) = ((aroundN R Y : Nat) : Int) by
                unfold aroundR
                rw [if_pos ⟨HG.out, Int.natCast_nonneg _, by rw [show n.toNat = lg.length by omega]; exact_mod_cast HYL.out⟩, Int.toNat_natCast, HRR.out])
              obtain ⟨Q2, hQ2⟩ : ∃ x, x = aroundN R Y := ⟨_, rfl⟩
              rw [← hQ2] at hAY HAR2
              obtain ⟨Z, hZ⟩ : ∃ Z, Z = Q2 &&& S := ⟨_, rfl⟩
              have e3 : bits .and .i64 (Q2 : Int) (S : Int) = (Z : Int) := by rw [(bits_nat Q2 S hAY hS7).1, hZ]
              have HZ := Lib.hid (show itN R S (2 ^ B) (m + 1) = Z by
                show stepN R S (itN R S (2 ^ B) m) = Z
                rw [← HY.out, hZ, hQ2]; rfl)
              clear hQ2 hZ
              go_wp2_with fail
              refine (specAround n _ lg (Y : Int) _ HC.out).mono ?_
              rintro e w9 ⟨rfl, hb⟩
              rw [HAR2.out]
              have HO3 := Lib.hid (HO2.out.on hb)
              have HB9 := Lib.hid (HBL.out.trans (hb.mono hzr))
              clear hb c0 c1
              go_wp2
              go_roundw
              case rel => exact ⟨m + 1, by omega, by go_num, by rw [HZ.out], HO3.out, HB9.out⟩
              case measure => simp [intOf]; omega
        · obtain rfl : m = lg.length := by omega
          have hjf : decide ((lg.length : Int) < n) = false := decide_eq_false (by omega)
          have hAl : A < lg.length := hA
          obtain ⟨d, hd⟩ : ∃ d, d = flK R S B lg.length A := ⟨_, rfl⟩
          have hfl : nth (flL R S B lg.length lg.length 0) A = d := by rw [flL_nth _ _ _ _ _ _ _ hA, if_neg (by omega), hd]
          obtain ⟨-, hn9⟩ | ⟨g', cp', hs9, -, hgl', -, hmx', hcl, -⟩ := HO.out.form
          · have h9 := flL_length R S B lg.length lg.length 0
            rw [hn9, List.length_nil] at h9
            omega
          rw [flL_length] at hs9
          simp only [Value.slice.injEq, Option.some.injEq, Addr.mk.injEq, and_true, true_and] at hs9
          obtain ⟨rfl, rfl⟩ := hs9
          obtain ⟨wf, rfl⟩ : ∃ wf, wf = wr := ⟨_, rfl⟩
          have HFC : Hid (∀ v, v < lg.length → wf.cell? ⟨g, v, none⟩ = some (.int .i64 (flK R S B lg.length v))) := fun v hv => by
            rw [hcl v (by rw [flL_length]; exact hv), flL_nth _ _ _ _ _ _ _ hv, if_neg (by omega)]
          have e2 := HFC.out A hA
          rw [← hd] at e2
          have HD := Lib.hid hd
          have HCBF := Lib.hid (HAX.out _ HBL.out).2.2.2.1
          clear hcl hd hfl HO
          by_cases h0 : d < 0
          · have q0 : decide (d < 0) = true := decide_eq_true h0
            have HN := Lib.hid (show RES = none by
              rw [HRES.out]; unfold wayR
              rw [if_pos ⟨HSA.out, HSB.out⟩, flK_neg.1 (by rw [← HD.out]; exact h0)])
            have HEZ := Lib.hid (OwnI.lit0 wf w.heap.size HCBF.out.size)
            have HEW := Lib.hid (HCBF.out.alloc HCBF.out.size (.cells #[] 3))
            clear h0
            go_wp2
            go_ret2
            exact ⟨_, by rw [HN.out]; rfl, by rw [HN.out]; exact HEZ.out, HEW.out⟩
          · have q0 : decide (d < 0) = false := decide_eq_false h0
            have hfk : ∃ k, farK R S B lg.length A = some k := by
              cases hk : farK R S B lg.length A with
              | some k => exact ⟨k, rfl⟩
              | none => exact absurd (by rw [HD.out]; exact flK_neg.2 hk) h0
            obtain ⟨k, hk⟩ := hfk
            obtain ⟨hk1, hk2, hk3⟩ := far_some.1 hk
            have HN := Lib.hid (show RES = some (wayL R S B k A) by
              rw [HRES.out]; unfold wayR
              rw [if_pos ⟨HSA.out, HSB.out⟩, hk])
            have HK2 := Lib.hid hk2
            have HK3 := Lib.hid hk3
            have HOW := Lib.hid (OwnI.one (B := wf.heap.size) (w := wf) (x := (A : Int)) (Nat.le_refl _) (by omega) (by omega))
            clear h0 hk hk2 hk3
            go_wp2
            clear e2 c0 c1
            go_loopw [16] (fun s wr => ∃ (j c' : Nat) (L : List Int), L.length + j = k + 1 ∧ 0 < L.length ∧ c' < lg.length ∧ Hid (nth L (L.length - 1) = (c' : Int)) ∧ Hid (OwnI wf.heap.size wr s L) ∧ Hid (wayL R S B k A = L ++ (wayL R S B j c').tail) ∧ Hid ((itN R S (2 ^ B) j).testBit c' = true ∧ ∀ q, q < j → (itN R S (2 ^ B) q).testBit c' = false) ∧ Below wf.heap.size wf wr) (fun s _ => k + 1 - lenV s)
            case atStart => exact ⟨k, A, [(A : Int)], by simp; omega, by simp, hA, rfl, HOW.out, by rw [wayL_tail R S B k A]; rfl, ⟨HK2.out, HK3.out⟩, (Below.refl _ _).alloc (Nat.le_refl _) _⟩
            case round =>
              clear HOW
              obtain ⟨j, c', L, hLj, hL0, hcl, HLA, HOW, HWY, HBT, hbel2⟩ := hrel
              have HB4 := Lib.hid hbel2
              clear hbel2
              have hjk : j ≤ k := by omega
              obtain ⟨p, hp⟩ : ∃ p, L.length = p + 1 := ⟨L.length - 1, by omega⟩
              obtain ⟨b1, off1, cap1, hv1, -, hm1, hb1, hc1⟩ := HOW.out.ints.pos (by omega)
              have e1 := hc1 p (by omega)
              rw [show nth L p = (c' : Int) by have := HLA.out; rw [hp] at this; exact this] at e1
              have hpl : p < L.length := by omega
              have hLl : L.length ≤ 8 := by omega
              have gp : IntKind.i64.wrap ((L.length : Int) - 1) = (p : Int) := (IntWalk.i64_in _ (by omega)).trans (by omega)
              have HPL := Lib.hid hp
              unfold maxLen at hm1
              subst hv1
              clear hc1 hp
              cases j with
              | zero =>
                have hcB : c' = B := by
                  have h1 := HBT.out.1
                  change (2 ^ B).testBit c' = true at h1
                  rw [Nat.testBit_two_pow] at h1
                  exact (of_decide_eq_true h1).symm
                have q0 : ((c' : Int) != (B : Int)) = false := by rw [bne_eq_false_iff_eq, hcB]
                have HNL := Lib.hid (show RES = some L by
                  rw [HN.out, HWY.out]
                  show some (L ++ []) = some L
                  rw [List.append_nil])
                have HW := Lib.hid (HCBF.out.trans (HB4.out.mono HCBF.out.size))
                have HZO := Lib.hid (HOW.out.mono HCBF.out.size)
                clear hcB
                go_wp2
                go_ret2
                exact ⟨_, by rw [HNL.out]; rfl, by rw [HNL.out]; exact HZO.out, HW.out⟩
              | succ j =>
                obtain ⟨hv1, hv2⟩ := HBT.out
                have q0 : ((c' : Int) != (B : Int)) = true := by
                  rw [bne_iff_ne]
                  intro h
                  have h1 : c' = B := by exact_mod_cast h
                  have h2 := hv2 0 (by omega)
                  change (2 ^ B).testBit c' = false at h2
                  rw [h1, Nat.testBit_two_pow_self] at h2
                  cases h2
                obtain ⟨n1, n2, n3, n4, n5, n6⟩ := way_next (R := R) (S := S) (b := B) (N := lg.length) (i := j) (c := c') hm7 HSL.out HBS.out HRL.out HSY.out hv1 (hv2 j (by omega))
                obtain ⟨Q, hQ⟩ : ∃ Q, Q = R c' &&& itN R S (2 ^ B) j := ⟨_, rfl⟩
                obtain ⟨D, hD⟩ : ∃ D, D = lowN Q := ⟨_, rfl⟩
                rw [← hQ, ← hD] at n3 n4 n5
                rw [← hQ] at n1 n2
                have HWN := Lib.hid (show wayL R S B (j + 1) c' = (c' : Int) :: wayL R S B j D by rw [hD, hQ]; rfl)
                have hjN : j + 1 < lg.length := by omega
                have HQC : Hid (∀ u, u < lg.length → ((edB lg c' u = true ∧ flK R S B lg.length u = (j : Int)) ↔ Q.testBit u = true)) := fun u hu => by
                  rw [HED.out c' u hcl, flK_eq, hQ, Nat.testBit_and, Bool.and_eq_true]
                  refine ⟨fun h => ⟨h.1, (far_some.1 h.2).2.1⟩, fun h => ⟨h.1, far_some.2 ⟨by omega, h.2, n6 u h.1 h.2⟩⟩⟩
                have HDQ := Lib.hid (show Q.testBit D = true by rw [hD]; exact (low_facts Q n1 n2).1)
                have HDL : Hid (∀ u, u < 7 → Q.testBit u = true → D ≤ u) := fun u hu h => by rw [hD]; exact low_least Q u n2 hu h
                have HDN : Hid ((itN R S (2 ^ B) j).testBit D = true ∧ ∀ q, q < j → (itN R S (2 ^ B) q).testBit D = false) := ⟨n3, n6 D n4 n3⟩
                have HCD : Hid (c' ≠ D) := fun h => by
                  have h1 := hv2 j (by omega)
                  rw [h, n3] at h1
                  cases h1
                have HFA := Lib.hid (show flK R S B lg.length c' = (((j + 1 : Nat) : Int)) from flK_eq.2 (far_some.2 ⟨hjN, hv1, hv2⟩))
                clear hQ hD hv1 hv2 n1 n2 n3 n4 n6
                obtain ⟨wo2, rfl⟩ : ∃ wo2, wo2 = wr := ⟨_, rfl⟩
                go_wp2
                clear e1 q0 gp
                go_loopw [16, 18] (fun s x wr => ∃ (v : Nat) (M : List Int) (e : Nat), v ≤ lg.length ∧ x = .int .i64 v ∧ M.length ≤ 9 ∧ 0 < M.length ∧ Hid (nth M (M.length - 1) = (e : Int)) ∧ Hid (OwnI wf.heap.size wr s M) ∧ Hid ((M = L ∧ e = c' ∧ ∀ u, u < v → ¬ (edB lg c' u = true ∧ flK R S B lg.length u = (j : Int))) ∨ (M = L ++ [(D : Int)] ∧ e = D ∧ D < v)) ∧ Below wf.heap.size wf wr) (fun _ x _ => lg.length - (intOf x).toNat)
                case atStart => exact ⟨0, L, c', by omega, rfl, by omega, by omega, HLA.out, HOW.out, .inl ⟨rfl, rfl, fun u hu => absurd hu (by omega)⟩, HB4.out⟩
                case round =>
                  clear HB4
                  obtain ⟨v, M, e, hv, rfl, hM9, hM0, HME, HMO, HMS, hbel3⟩ := hrel
                  have HB5 := Lib.hid hbel3
                  have hzf : w.heap.size + 1 ≤ wf.heap.size := by have := HBL.out.size; simpa using this
                  have HBX : Hid (∀ X : Since wr, Below wf.heap.size wf X.val) := fun X => HB5.out.trans (X.prop.mono HB5.out.size)
                  have HST : Hid (∀ X : Since wr, ArgG 29 w n (.slice ad lg.length cap) lg X.val) := fun X => HAX.out _ (HBL.out.trans ((HBX.out X).mono hzf))
                  have hx0 : ∀ X : Since wr, X.val.cell? ⟨w.heap.size, 0, none⟩ = some (.int .i64 n) := fun X => (HST.out X).1
                  have hx1 : ∀ X : Since wr, X.val.cell? ⟨w.heap.size, 1, none⟩ = some (.slice ad lg.length cap) := fun X => (HST.out X).2.1
                  have y0 : wr.cell? ⟨w.heap.size, 0, none⟩ = some (.int .i64 n) := (HAX.out _ (HBL.out.trans (HB5.out.mono hzf))).1
                  clear hbel3
                  by_cases hlv : v < lg.length
                  · have hvt : decide ((v : Int) < n) = true := decide_eq_true (by omega)
                    obtain ⟨p2, hp2⟩ : ∃ p, M.length = p + 1 := ⟨M.length - 1, by omega⟩
                    obtain ⟨b2, off2, cap2, hv2, -, hm2, hb2, hc2⟩ := HMO.out.ints.pos hM0
                    have hME : nth M p2 = (e : Int) := by have := HME.out; rw [hp2] at this; exact this
                    have hx2 : ∀ X : Since wr, X.val.cell? ⟨b2, off2 + p2, none⟩ = some (.int .i64 e) := fun X => by
                      rw [X.prop.cell (p := ⟨b2, off2 + p2, none⟩) hb2, hc2 p2 (by omega), hME]
                    obtain ⟨fv, hfv⟩ : ∃ x, x = flK R S B lg.length v := ⟨_, rfl⟩
                    obtain ⟨J1, hJ1⟩ : ∃ x : Int, x = ((j + 1 : Nat) : Int) := ⟨_, rfl⟩
                    have hx3 : ∀ X : Since wr, X.val.cell? ⟨g, v, none⟩ = some (.int .i64 fv) := fun X => by
                      rw [(HBX.out X).cell (p := ⟨g, v, none⟩) hgl', HFC.out v hlv, hfv]
                    have hx4 : ∀ X : Since wr, X.val.cell? ⟨g, c', none⟩ = some (.int .i64 J1) := fun X => by
                      rw [(HBX.out X).cell (p := ⟨g, c', none⟩) hgl', HFC.out c' hcl, HFA.out, hJ1]
                    have gj : IntKind.i64.wrap (J1 - 1) = (j : Int) := (IntWalk.i64_in _ (by omega)).trans (by omega)
                    have gp : IntKind.i64.wrap ((M.length : Int) - 1) = (p2 : Int) := (IntWalk.i64_in _ (by omega)).trans (by omega)
                    have hp2l : p2 < M.length := by omega
                    have HED2 : Hid (∀ b, edB lg c' v = b → ∀ X : Since wr, Calls Tryd.prog 32 #[.agg #[.int .i64 n, .slice ad lg.length cap], .int .i64 c', .int .i64 v] X.val fun e w' => e = .returned (.bool b) ∧ Below X.val.heap.size X.val w') := fun b hb X => by rw [← hb]; exact l2Edge_is n _ lg c' v _ (HST.out X).2.2.1 hcl (by omega)
                    have HFV := Lib.hid hfv
                    have HSKIP : Hid (¬ (edB lg c' v = true ∧ flK R S B lg.length v = (j : Int)) ∨ e ≠ c' → ((M = L ∧ e = c' ∧ ∀ u, u < v + 1 → ¬ (edB lg c' u = true ∧ flK R S B lg.length u = (j : Int))) ∨ (M = L ++ [(D : Int)] ∧ e = D ∧ D < v + 1))) := fun h => by
                      rcases HMS.out with ⟨h1, h2, h3⟩ | ⟨h1, h2, h3⟩
                      · rcases h with h | h
                        · refine .inl ⟨h1, h2, fun u hu => ?_⟩
                          rcases Nat.lt_or_ge u v with h4 | h4
                          · exact h3 u h4
                          · obtain rfl : u = v := by omega
                            exact h
                        · exact absurd h2 h
                      · exact .inr ⟨h1, h2, by omega⟩
                    unfold maxLen at hm2
                    subst hv2
                    clear hc2 hME hJ1 hfv hp2
                    go_wp2
                    try dsimp only [List.append]
                    refine wp_region_since (by kernel_rfl) (by kernel_rfl) ?_
                    cases he : edB lg c' v with
                    | false =>
                      have HE := Lib.hid (HED2.out false he)
                      have HS := Lib.hid (HSKIP.out (.inl fun h => by rw [he] at h; cases h.1))
                      clear he
                      repeat (go_big_quiet_step (with_reducible exact since_call (HE.out _)))
                      refine wpQuiet_nil ?_
                      intro X
                      have HB6 := Lib.hid (HBX.out X)
                      have HO6 := Lib.hid (HMO.out.on X.prop)
                      obtain ⟨wx, hwx⟩ : ∃ wx, wx = X.val := ⟨_, rfl⟩
                      rw [← hwx] at HB6 HO6 ⊢
                      clear hwx hx0 hx1 hx2 hx3 hx4 y0
                      go_wp2
                      go_roundw
                      case rel => exact ⟨v + 1, M, e, by omega, by go_num, hM9, hM0, HME.out, HO6.out, HS.out, HB6.out⟩
                      case measure => simp [intOf]; omega
                    | true =>
                      have HE := Lib.hid (HED2.out true he)
                      have HETT := Lib.hid he
                      clear he
                      by_cases hf : fv = (j : Int)
                      · have q1 : (fv == (j : Int)) = true := by rw [beq_iff_eq]; exact hf
                        have HFF := Lib.hid hf
                        clear hf
                        by_cases hec : e = c'
                        · have q2 : ((c' : Int) == (e : Int)) = true := by rw [beq_iff_eq, hec]
                          have HDv : Hid (v = D) := by
                            show v = D
                            have h1 : Q.testBit v = true := (HQC.out v hlv).1 ⟨HETT.out, by rw [← HFV.out]; exact HFF.out⟩
                            have h2 := HDL.out v (by omega) h1
                            rcases HMS.out with ⟨-, -, h3⟩ | ⟨-, h3, -⟩
                            · rcases Nat.lt_or_ge D v with h4 | h4
                              · exact absurd ((HQC.out D (by omega)).2 HDQ.out) (h3 D h4)
                              · omega
                            · exact absurd (hec.symm.trans h3) HCD.out
                          have HML : Hid (M = L) := by
                            rcases HMS.out with ⟨h1, -, -⟩ | ⟨-, h3, -⟩
                            · exact h1
                            · exact absurd (hec.symm.trans h3) HCD.out
                          clear hec
                          repeat (go_big_quiet_step (with_reducible exact since_call (HE.out _)))
                          refine wpQuiet_nil ?_
                          intro X
                          have HB6 := Lib.hid (HBX.out X)
                          have HO6 := Lib.hid (HMO.out.on X.prop)
                          obtain ⟨wx, hwx⟩ : ∃ wx, wx = X.val := ⟨_, rfl⟩
                          rw [← hwx] at HB6 HO6 ⊢
                          have hll : M.length + 1 ≤ 1000000000 := by omega
                          have hzx : wf.heap.size ≤ wx.heap.size := HB6.out.size
                          clear hwx hx0 hx1 hx2 hx3 hx4 y0
                          go_wp2_with (at_builtin; refine wpList_append_int rfl (.tmp 168) (.tmp 170) 22 rfl wf.heap.size i0 Tryd.underlying22 hi hz0 hz1 hz2 _ M rfl HO6.out (v : Int) (by omega) (by omega) rfl hll hzx ?_)
                          intro v7 w7 ho7 hg7 hne7
                          have HO7 := Lib.hid ho7
                          have HB7 := Lib.hid ((HB6.out.alloc hzx (.cells #[.int .i64 (v : Int)] 3)).grown hg7 (by rw [World.size_alloc]; omega) (fun q hq => (HO6.out.lt q hq).1))
                          clear ho7 hg7 hne7
                          go_wp2
                          go_roundw
                          case rel => exact ⟨v + 1, M ++ [(v : Int)], v, by omega, by go_num, by have h1 := congrArg List.length HML.out; simp; omega, by simp, by rw [show (M ++ [(v : Int)]).length - 1 = M.length by simp]; exact nth_append_len M (v : Int), HO7.out, .inr ⟨by rw [HML.out, HDv.out], HDv.out, by have := HDv.out; omega⟩, HB7.out⟩
                          case measure => simp [intOf]; omega
                        · have q2 : ((c' : Int) == (e : Int)) = false := by rw [beq_eq_false_iff_ne]; exact fun h => hec (by exact_mod_cast h.symm)
                          have HS := Lib.hid (HSKIP.out (.inr hec))
                          clear hec
                          repeat (go_big_quiet_step (with_reducible exact since_call (HE.out _)))
                          refine wpQuiet_nil ?_
                          intro X
                          have HB6 := Lib.hid (HBX.out X)
                          have HO6 := Lib.hid (HMO.out.on X.prop)
                          obtain ⟨wx, hwx⟩ : ∃ wx, wx = X.val := ⟨_, rfl⟩
                          rw [← hwx] at HB6 HO6 ⊢
                          clear hwx hx0 hx1 hx2 hx3 hx4 y0
                          go_wp2
                          go_roundw
                          case rel => exact ⟨v + 1, M, e, by omega, by go_num, hM9, hM0, HME.out, HO6.out, HS.out, HB6.out⟩
                          case measure => simp [intOf]; omega
                      · have q1 : (fv == (j : Int)) = false := by rw [beq_eq_false_iff_ne]; exact hf
                        have HS := Lib.hid (HSKIP.out (.inl fun h => hf (by rw [HFV.out]; exact h.2)))
                        clear hf
                        repeat (go_big_quiet_step (with_reducible exact since_call (HE.out _)))
                        refine wpQuiet_nil ?_
                        intro X
                        have HB6 := Lib.hid (HBX.out X)
                        have HO6 := Lib.hid (HMO.out.on X.prop)
                        obtain ⟨wx, hwx⟩ : ∃ wx, wx = X.val := ⟨_, rfl⟩
                        rw [← hwx] at HB6 HO6 ⊢
                        clear hwx hx0 hx1 hx2 hx3 hx4 y0
                        go_wp2
                        go_roundw
                        case rel => exact ⟨v + 1, M, e, by omega, by go_num, hM9, hM0, HME.out, HO6.out, HS.out, HB6.out⟩
                        case measure => simp [intOf]; omega
                  · obtain rfl : v = lg.length := by omega
                    have hvf : decide ((lg.length : Int) < n) = false := decide_eq_false (by omega)
                    have HM2 : Hid (M = L ++ [(D : Int)]) := by
                      rcases HMS.out with ⟨-, -, h3⟩ | ⟨h3, -, -⟩
                      · exact absurd ((HQC.out D n5).2 HDQ.out) (h3 D n5)
                      · exact h3
                    have HW6 := Lib.hid (show wayL R S B k A = M ++ (wayL R S B j D).tail by
                      rw [HWY.out, HWN.out, HM2.out, List.append_assoc]
                      congr 1
                      exact wayL_tail R S B j D)
                    have HML9 := Lib.hid (show M.length = L.length + 1 by rw [HM2.out]; simp)
                    have HLD := Lib.hid (show nth M (M.length - 1) = (D : Int) by rw [HM2.out]; simp [nth])
                    obtain ⟨am, capm, rfl, -, -⟩ := HMO.out.ints.form
                    clear hx0 hx1
                    go_wp2
                    go_roundw
                    case rel => exact ⟨j, D, M, by have := HML9.out; omega, by have := HML9.out; omega, n5, HLD.out, HMO.out, HW6.out, HDN.out, HB5.out⟩
                    case measure =>
                      have := HML9.out
                      simp only [lenV]
                      omega

end Go.Proofs.YtgfndgjabhabjacDoor
