/- spec.LexOrder. -/
import Derived.Test.YtcpchdnhhjhpaaaO3
namespace Go.Proofs.Ytcpchdnhhjhpaaa
set_option linter.unusedVariables false
set_option linter.unusedSimpArgs false
open Go.RowKit Go.Shelf

def bestV : Option Nat → Int
  | none => -1
  | some b => b

theorem OwnI.none0 {B : Nat} {w : World} (hB : B ≤ w.heap.size) : OwnI B (w.alloc (.cells #[] 3)) (.slice (some ⟨w.heap.size, 0, none⟩) 0 0) [] :=
  ⟨inI64_nil, by simp [iv], .inr ⟨w.heap.size, 0, #[], rfl, hB, by show (w.heap.push _)[w.heap.size]? = _; rw [Array.getElem?_push_size], by simp, by unfold maxLen; omega, by simp, by simp [iv]⟩⟩

set_option maxHeartbeats 8000000 in
set_option maxRecDepth 100000 in
theorem specLexOrder (n : Int) (v : Value) (lg : List Int) (start : Int) (w : World) (h : Ints w v lg) :
    Calls Try.prog 17 #[.agg #[.int .i64 n, v], .int .i64 start] w (GetsLB w.heap.size w (ordR (lexM lg) n lg start)) := by
  obtain ⟨i0, hi, hz0, hz1, hz2⟩ := info_parts infoInt
  obtain ⟨a, cap, rfl, -, -⟩ := h.form
  have HA := argG' (T := 28) (n := n) h
  have HI := Lib.hid h
  obtain ⟨R, hR⟩ : ∃ R, R = ordR (lexM lg) n lg start := ⟨_, rfl⟩
  have HR := Lib.hid hR
  rw [← hR]
  clear h hR
  go_enter Try.func17, Try.ntmps17
  go_wp2_with fail
  refine (specIsG_any n _ lg _ (HI.out.on ((Below.refl _ w).alloc (Nat.le_refl _) _))).mono ?_
  rintro e w1 ⟨r, rfl, hr, hb⟩
  have HRG := Lib.hid hr
  have B1 := Lib.hid (show Below (w.heap.size + 1) (w.alloc (.cells #[.int .i64 n, .slice a lg.length cap] 28)) w1 from by simpa using hb)
  clear hr hb
  obtain ⟨c0, c1, cI, cB, cz⟩ := HA.out _ B1.out
  have HCI := Lib.hid cI
  have HCB := Lib.hid cB
  clear cI cB
  cases r with
  | false =>
    have HN := Lib.hid (show R = none by rw [HR.out]; unfold ordR; rw [if_neg (fun h => absurd (HRG.out.2 h.1) (by decide))])
    go_wp2
    go_ret2
    exact ⟨_, by rw [HN.out]; rfl, by rw [HN.out]; exact OwnI.none0 (by omega), HCB.out.alloc (by omega) _⟩
  | true =>
    have HG := Lib.hid (HRG.out.1 (by first | rfl | trivial))
    by_cases hs0 : 0 ≤ start
    · by_cases hs1 : start < n
      · have hn7 := HG.out.2.1
        obtain ⟨S, rfl⟩ : ∃ S : Nat, start = (S : Int) := ⟨start.toNat, by omega⟩
        have hle : (lg.length : Int) ≤ n := by have := HG.out.2.2.1; omega
        have hge : n ≤ (lg.length : Int) := by have := HG.out.2.2.1; omega
        have hl7 : lg.length ≤ 7 := by omega
        have hS7 : S < 7 := by omega
        obtain ⟨X0, hX0⟩ : ∃ X0 : Nat, X0 = 2 ^ lg.length - 1 - 2 ^ S := ⟨_, rfl⟩
        have hS2 : 2 ^ S < 2 ^ lg.length := Nat.pow_lt_pow_right (by decide) (by omega)
        have hN0 : 0 < 2 ^ lg.length := Nat.pow_pos (by decide)
        have hS0 : 0 < 2 ^ S := Nat.pow_pos (by decide)
        have hX0l : X0 < 2 ^ lg.length := by omega
        have hU0 : (2 : Int) ^ S = ((2 ^ lg.length - (X0 + 1) : Nat) : Int) := by
          have h1 : 2 ^ lg.length - (X0 + 1) = 2 ^ S := by omega
          rw [h1]; push_cast; rfl
        have hpS := pop_start ⟨lg.length, by omega⟩ ⟨S, hS7⟩ (by show S < lg.length; omega)
        have HP0 := Lib.hid (show 1 + popN X0 = lg.length by rw [hX0]; exact hpS)
        have HRX := Lib.hid (show R = some (ordM (labM lg) 7 [(S : Int)] X0) by rw [HR.out]; unfold ordR; rw [if_pos ⟨HG.out, by omega, hs1⟩, Int.toNat_natCast, lex_lab, hX0])
        have HO0 := Lib.hid (OwnI.single (B := w.heap.size + 1) (w := w1) (x := (S : Int)) (by omega) (by omega) (by omega))
        have hb2 := HCB.out.alloc (B := w.heap.size) (by omega) (.cells #[.int .i64 (S : Int)] 3)
        have B2 := Lib.hid (B1.out.alloc (by omega) (.cells #[.int .i64 (S : Int)] 3))
        have HX0L := Lib.hid hX0l
        have HUU := Lib.hid hU0
        obtain ⟨s1, s2, s3, s4, s5⟩ := shl_one' S (by omega)
        obtain ⟨P, hP⟩ : ∃ P : Int, P = 2 ^ S := ⟨_, rfl⟩
        have HPP := Lib.hid hP
        have f1 : (2 : Int) ^ S = P := hP.symm
        rw [← hP] at s1 s2 s3 s4 s5
        clear hX0 hX0l hU0 hpS hS2 hb2 hP hN0 hS0
        go_wp2
        clear s1 s2 s3 s4 s5 f1
        go_loopw [6, 7] (fun s x wr => ∃ (X fu : Nat) (L : List Int), X < 2 ^ lg.length ∧ x = .int .i64 ((2 ^ lg.length - (X + 1) : Nat) : Int) ∧ popN X ≤ fu ∧ L.length + popN X = lg.length ∧ Hid (OwnI (w.heap.size + 1) wr s L) ∧ Hid (Verts lg L) ∧ Hid (R = some (ordM (labM lg) fu L X)) ∧ Below (w.heap.size + 1) (w.alloc (.cells #[.int .i64 n, .slice a lg.length cap] 28)) wr) (fun _ x _ => 128 - (intOf x).toNat)
        case atStart =>
          refine ⟨X0, 7, [(S : Int)], HX0L.out, ?_, ?_, HP0.out, HO0.out, ?_, HRX.out, B2.out⟩
          · rw [HPP.out, HUU.out]
          · have := HP0.out; omega
          · exact Verts.snoc (Verts.nil lg) (by omega)
        case round =>
          clear HO0 B2 HX0L HP0 HRX HUU
          obtain ⟨X, fu, L, hXl, rfl, hfu, hLX, HO, HV, HRE, hbel⟩ := hrel
          have HBL := Lib.hid hbel
          clear hbel
          obtain ⟨c0, c1, cI, cB, hz⟩ := HA.out _ HBL.out
          have HCI2 := Lib.hid cI
          have HCB2 := Lib.hid cB
          clear cI cB
          have h128 := two_le lg.length hl7
          have hX7 : X < 128 := by omega
          obtain ⟨al, capl, rfl, hcl, hml⟩ := HO.out.ints.form
          obtain ⟨U, hU⟩ : ∃ U, U = 2 ^ lg.length - (X + 1) := ⟨_, rfl⟩
          have hU7 : U < 128 := by omega
          rw [← hU]
          by_cases hX0 : X = 0
          · subst hX0
            have hL : L.length = lg.length := by have : popN 0 = 0 := rfl; omega
            have d0 : decide ((L.length : Int) < n) = false := decide_eq_false (by omega)
            have HN := Lib.hid (show R = some L by rw [HRE.out, ordM_zero])
            clear hU hfu hLX
            go_wp2
            go_ret2
            exact ⟨_, by rw [HN.out]; rfl, by rw [HN.out]; exact HO.out.mono (by omega), HCB2.out⟩
          · obtain ⟨n1, n2, n3, n4, n5, n6, n7⟩ := next_facts (labM lg L) (show 0 < X by omega) hX7
            have hpp := pop_pos (show 0 < X by omega) hX7
            have d0 : decide ((L.length : Int) < n) = true := decide_eq_true (by omega)
            obtain ⟨fu', rfl⟩ : ∃ k, fu = k + 1 := ⟨fu - 1, by omega⟩
            have HNX := Lib.hid (show R = some (ordM (labM lg) fu' (L ++ [(nextM (labM lg L) X : Int)]) (X - 2 ^ nextM (labM lg L) X)) by rw [HRE.out]; conv => lhs; unfold ordM; rw [if_neg hX0])
            obtain ⟨mk, hmk⟩ : ∃ mk, mk = labM lg L := ⟨_, rfl⟩
            have HCL : Hid (∀ z, z < lg.length → ∀ W, Below wr.heap.size wr W → Calls Try.prog 71 #[.agg #[.int .i64 n, .slice a lg.length cap], .slice al L.length capl, .int .i64 z] W fun e w' => e = .returned (.int .i64 (mk z : Nat)) ∧ Below W.heap.size W w') := fun z hz' W hW => by
              rw [hmk]
              exact specLabel n _ _ lg L z W (HCI2.out.on hW) (HO.out.ints.on hW) (by omega) HV.out (by omega)
            rw [← hmk] at n1 n2 n3 n4 n5 n6 n7 HNX
            have hL7 : L.length ≤ 7 := by omega
            have HML := Lib.hid (memT_full hl7 hXl)
            have HUB : Hid (∀ j, j < lg.length → (bitAt (U : Int) j = 0 ↔ X.testBit j = true)) := fun j hj => by
              have h1 := left_bit hXl hj
              rw [← hU] at h1
              have h2 := bitAt_nat U j
              rcases bitAt_two (U : Int) j with h | h
              · rw [h] at h2
                cases hb : X.testBit j with
                | true => simp [h]
                | false =>
                  rw [hb] at h1
                  exact absurd (h2.2 h1) (by decide)
              · have h3 := h2.1 h
                rw [h1] at h3
                cases hb : X.testBit j with
                | true => rw [hb] at h3; cases h3
                | false => simp [h]
            have HXL := Lib.hid hXl
            have HUU := Lib.hid hU
            have HLX := Lib.hid hLX
            have HFU := Lib.hid hfu
            have HN1 := Lib.hid n1
            have hbl : nextM mk X < lg.length := bit_lt hXl n3
            obtain ⟨p1, -, -⟩ := pop_less hX7 n2 n3
            have HP1 := Lib.hid p1
            have HN4 := Lib.hid n4
            have HN6 := Lib.hid n6
            clear hmk hU hXl hLX hfu n1 n3 n4 n5 n6 n7 p1 hX0
            obtain ⟨wo, rfl⟩ : ∃ wo, wo = wr := ⟨_, rfl⟩
            have hzo : w.heap.size + 1 ≤ wo.heap.size := hz
            go_wp2
            clear c0 c1
            go_loopw [8, 9] (fun c x w2 => ∃ (j : Nat), j ≤ lg.length ∧ x = .int .i64 j ∧ c = .int .i64 (bestV (pickL mk (memT X j))) ∧ Below wo.heap.size wo w2) (fun _ x _ => lg.length - (intOf x).toNat)
            case atStart => exact ⟨0, by omega, rfl, rfl, Below.refl _ _⟩
            case round =>
              obtain ⟨j, hj, rfl, rfl, hb2⟩ := hrel
              have HB2 := Lib.hid hb2
              have HBLX := Lib.hid (HBL.out.trans (hb2.mono hzo))
              clear hb2
              obtain ⟨c0, c1, -, cB, hz'⟩ := HA.out _ HBLX.out
              have HCB3 := Lib.hid cB
              clear cB
              have hzr : wo.heap.size ≤ wr.heap.size := HB2.out.size
              by_cases hlt : j < lg.length
              · have hx0 : ∀ X : Since wr, X.val.cell? ⟨w.heap.size, 0, none⟩ = some (.int .i64 n) := fun X => (HA.out _ (HBLX.out.trans (X.prop.mono hz'))).1
                have hx1 : ∀ X : Since wr, X.val.cell? ⟨w.heap.size, 1, none⟩ = some (.slice a lg.length cap) := fun X => (HA.out _ (HBLX.out.trans (X.prop.mono hz'))).2.1
                obtain ⟨t, ht⟩ : ∃ t, t = bitAt (U : Int) j := ⟨_, rfl⟩
                have e1 : bits .and .i64 ((U : Int) / 2 ^ j) 1 = t := by rw [ht]; exact and_one_bit _ j
                have z1 : t = 0 ∨ t = 1 := by rw [ht]; exact bitAt_two _ _
                have hUBj := HUB.out j hlt
                rw [← ht] at hUBj
                have hjn : decide ((j : Int) < n) = true := decide_eq_true (by omega)
                clear ht
                rcases z1 with rfl | rfl
                · have hXj : X.testBit j = true := hUBj.1 rfl
                  have HST := Lib.hid (show pickL mk (memT X (j + 1)) = pickS mk (pickL mk (memT X j)) j by rw [memT_succ, if_pos hXj, pickL_snoc])
                  have HPM := Lib.hid (pickL_mem mk (memT X j))
                  obtain ⟨o, ho⟩ : ∃ o, o = pickL mk (memT X j) := ⟨_, rfl⟩
                  rw [← ho] at HST HPM ⊢
                  clear ho hUBj hXj
                  cases o with
                  | none =>
                    have HS2 := Lib.hid (show pickL mk (memT X (j + 1)) = some j from HST.out)
                    simp only [bestV]
                    go_wp2
                    refine wp_region_since (by kernel_rfl) (by kernel_rfl) ?_
                    repeat (go_big_quiet_step (fail))
                    refine wpQuiet_nil ?_
                    intro Z
                    have HZ := Lib.hid (HB2.out.trans (Z.prop.mono hzr))
                    clear hx0 hx1
                    go_wp2
                    go_roundw
                    case rel => exact ⟨j + 1, by omega, by go_num, by rw [HS2.out], HZ.out⟩
                    case measure => simp [intOf]; omega
                  | some b =>
                    have hbj : b < j := by
                      have h1 := HPM.out b rfl
                      unfold memT at h1
                      rw [List.mem_filter, List.mem_range] at h1
                      exact h1.1
                    have hb0 : decide ((b : Int) < 0) = false := decide_eq_false (by omega)
                    obtain ⟨A, hA⟩ : ∃ A, A = mk j := ⟨_, rfl⟩
                    obtain ⟨B, hB⟩ : ∃ B, B = mk b := ⟨_, rfl⟩
                    have HC1 : Hid (∀ X : Since wr, Calls Try.prog 71 #[.agg #[.int .i64 n, .slice a lg.length cap], .slice al L.length capl, .int .i64 j] X.val fun e w' => e = .returned (.int .i64 (A : Nat)) ∧ Below X.val.heap.size X.val w') := fun X => by rw [hA]; exact HCL.out j hlt _ (HB2.out.trans (X.prop.mono hzr))
                    have HC2 : Hid (∀ X : Since wr, Calls Try.prog 71 #[.agg #[.int .i64 n, .slice a lg.length cap], .slice al L.length capl, .int .i64 b] X.val fun e w' => e = .returned (.int .i64 (B : Nat)) ∧ Below X.val.heap.size X.val w') := fun X => by rw [hB]; exact HCL.out b (by omega) _ (HB2.out.trans (X.prop.mono hzr))
                    have HST2 : Hid (pickL mk (memT X (j + 1)) = if B < A then some j else some b) := by
                      have h1 := HST.out
                      unfold pickS at h1
                      rw [hA, hB]
                      exact h1
                    simp only [bestV]
                    clear hA hB
                    by_cases hgt : B < A
                    · have d1 : decide ((B : Int) < (A : Int)) = true := decide_eq_true (by omega)
                      have HS2 := Lib.hid (show pickL mk (memT X (j + 1)) = some j from HST2.out.trans (if_pos hgt))
                      go_wp2
                      refine wp_region_since (by kernel_rfl) (by kernel_rfl) ?_
                      repeat (go_big_quiet_step (first | with_reducible exact since_call (HC1.out _) | with_reducible exact since_call (HC2.out _)))
                      refine wpQuiet_nil ?_
                      intro Z
                      have HZ := Lib.hid (HB2.out.trans (Z.prop.mono hzr))
                      clear hx0 hx1
                      go_wp2
                      go_roundw
                      case rel => exact ⟨j + 1, by omega, by go_num, by rw [HS2.out], HZ.out⟩
                      case measure => simp [intOf]; omega
                    · have d1 : decide ((B : Int) < (A : Int)) = false := decide_eq_false (by omega)
                      have HS2 := Lib.hid (show pickL mk (memT X (j + 1)) = some b from HST2.out.trans (if_neg hgt))
                      go_wp2
                      refine wp_region_since (by kernel_rfl) (by kernel_rfl) ?_
                      repeat (go_big_quiet_step (first | with_reducible exact since_call (HC1.out _) | with_reducible exact since_call (HC2.out _)))
                      refine wpQuiet_nil ?_
                      intro Z
                      have HZ := Lib.hid (HB2.out.trans (Z.prop.mono hzr))
                      clear hx0 hx1
                      go_wp2
                      go_roundw
                      case rel => exact ⟨j + 1, by omega, by go_num, by rw [HS2.out], HZ.out⟩
                      case measure => simp [intOf]; omega
                · have hXj : ¬ X.testBit j = true := fun h => absurd (hUBj.2 h) (by decide)
                  have HST := Lib.hid (show pickL mk (memT X (j + 1)) = pickL mk (memT X j) by rw [memT_succ, if_neg hXj])
                  obtain ⟨o, ho⟩ : ∃ o, o = bestV (pickL mk (memT X j)) := ⟨_, rfl⟩
                  have HO2 := Lib.hid ho
                  rw [← ho]
                  clear ho hUBj hXj
                  go_wp2
                  refine wp_region_since (by kernel_rfl) (by kernel_rfl) ?_
                  repeat (go_big_quiet_step (fail))
                  refine wpQuiet_nil ?_
                  intro Z
                  have HZ := Lib.hid (HB2.out.trans (Z.prop.mono hzr))
                  clear hx0 hx1
                  go_wp2
                  go_roundw
                  case rel => exact ⟨j + 1, by omega, by go_num, by rw [HST.out, HO2.out], HZ.out⟩
                  case measure => simp [intOf]; omega
              · obtain rfl : j = lg.length := by omega
                have hjn : decide ((lg.length : Int) < n) = false := decide_eq_false (by omega)
                obtain ⟨b, hb⟩ : ∃ b, b = nextM mk X := ⟨_, rfl⟩
                have HBV := Lib.hid (show bestV (pickL mk (memT X lg.length)) = (b : Int) by rw [HML.out, HN1.out, hb]; rfl)
                rw [HBV.out]
                have hbl2 : b < lg.length := by rw [hb]; exact hbl
                have HNX2 := HNX.out
                have HP2 := HP1.out
                have HN42 := HN4.out
                have HN62 := HN6.out
                rw [← hb] at HNX2 HP2 HN42 HN62
                have HNX3 := Lib.hid HNX2
                have HP3 := Lib.hid HP2
                have HN43 := Lib.hid HN42
                have HN63 := Lib.hid HN62
                obtain ⟨s1, s2, s3, s4, s5⟩ := shl_one' b (by omega)
                obtain ⟨P2, hP2⟩ : ∃ P : Int, P = 2 ^ b := ⟨_, rfl⟩
                have f1 : (2 : Int) ^ b = P2 := hP2.symm
                rw [← hP2] at s1 s2 s3 s4 s5
                have HPP2 := Lib.hid hP2
                obtain ⟨U', hU'⟩ : ∃ U' : Nat, U' = 2 ^ lg.length - (X - 2 ^ b + 1) := ⟨_, rfl⟩
                have hXl := HXL.out
                have hUe := HUU.out
                have hPN : P2 = ((2 ^ b : Nat) : Int) := by rw [hP2]; push_cast; rfl
                have hUP : (U : Int) + P2 = (U' : Int) := by rw [hPN]; omega
                have hU'7 : U' < 128 := by omega
                have hUlt : U < U' := by have : 0 < 2 ^ b := Nat.pow_pos (by decide); omega
                have g1 : IntKind.i64.wrap (U' : Int) = U' := IntWalk.i64_in _ (by omega)
                have HO3 := Lib.hid (HO.out.on HB2.out)
                have HXL2 := Lib.hid (show X - 2 ^ b < 2 ^ lg.length by omega)
                have HVS := Lib.hid (HV.out.snoc hbl2)
                have HUE := Lib.hid hU'
                have hzw : w.heap.size + 1 ≤ wr.heap.size := by omega
                clear hb HNX2 HP2 HN42 HN62 hP2 hU' hXl hUe hPN
                go_wp2_with (at_builtin; refine wpList_append_int rfl (.tmp 60) (.tmp 62) 22 rfl (w.heap.size + 1) i0 Try.underlying22 hi hz0 hz1 hz2 _ L rfl HO3.out (b : Int) (by omega) (by omega) rfl (by omega) hzw ?_)
                intro v2 w2 ho2 hg2 hne2
                have HO4 := Lib.hid ho2
                have HB4 := Lib.hid ((HBLX.out.alloc hzw (.cells #[.int .i64 (b : Int)] 3)).grown hg2 (by simp; omega) (fun q hq => (HO3.out.lt q hq).1))
                clear ho2 hg2 hne2 c0 c1
                go_wp2
                go_roundw
                case rel => exact ⟨X - 2 ^ b, fu', L ++ [(b : Int)], HXL2.out, by rw [HUE.out], (by have := HN63.out; have := HFU.out; omega), (by have := HP3.out; have := HLX.out; simp; omega), HO4.out, HVS.out, HNX3.out, HB4.out⟩
                case measure => simp [intOf]; omega
      · have hs1' : decide (n ≤ start) = true := decide_eq_true (by omega)
        have HN := Lib.hid (show R = none by rw [HR.out]; unfold ordR; rw [if_neg (fun h => hs1 h.2.2)])
        go_wp2
        go_ret2
        exact ⟨_, by rw [HN.out]; rfl, by rw [HN.out]; exact OwnI.none0 (by omega), HCB.out.alloc (by omega) _⟩
    · have hs0' : decide (start < 0) = true := decide_eq_true (by omega)
      have HN := Lib.hid (show R = none by rw [HR.out]; unfold ordR; rw [if_neg (fun h => hs0 h.2.1)])
      go_wp2
      go_ret2
      exact ⟨_, by rw [HN.out]; rfl, by rw [HN.out]; exact OwnI.none0 (by omega), HCB.out.alloc (by omega) _⟩

end Go.Proofs.Ytcpchdnhhjhpaaa
