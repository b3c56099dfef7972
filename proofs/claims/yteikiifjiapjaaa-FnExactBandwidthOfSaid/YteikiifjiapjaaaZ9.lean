/- impl.BestBand. -/
import Derived.Test.YteikiifjiapjaaaZ3
import Derived.Test.YteikiifjiapjaaaZ7
namespace Go.Proofs.Yteikiifjiapjaaa
set_option linter.unusedVariables false
set_option linter.unusedSimpArgs false
open Go.RowKit

set_option maxHeartbeats 2000000 in
set_option maxRecDepth 100000 in
theorem staysIn (n : Int) (v u : Value) (lg L : List Int) (x K : Nat) (w : World) (hg : IsG n lg) (h : Ints w v lg) (hl : Ints w u L) (hV : Verts lg L) (h7 : L.length ≤ 7) (hx : x < lg.length) (hK : K ≤ 7) :
    Calls Try.prog 75 #[.agg #[.int .i64 n, v], u, .int .i64 x, .int .i64 K] w (fun e w' => e = .returned (.bool (decide (BandL lg L K x))) ∧ Below w.heap.size w w') := by
  obtain ⟨a, cap, rfl, -, -⟩ := h.form
  obtain ⟨al, capl, rfl, hcl, hml⟩ := hl.form
  have HA := argG' (T := 28) (n := n) h
  have HL := Lib.hid hl
  have HV := Lib.hid hV
  have hm7 : lg.length ≤ 7 := by have := hg.2.1; have := hg.2.2.1; omega
  obtain ⟨r, hr⟩ : ∃ r, r = decide (BandL lg L K x) := ⟨_, rfl⟩
  have HR := Lib.hid hr
  rw [← hr]
  unfold maxLen at hml
  clear h hl hg hr hV
  go_enter Try.func75, Try.ntmps75
  go_wp2
  go_loopw [13] (fun c wr => ∃ i : Nat, i ≤ L.length ∧ c = .int .i64 i ∧ Hid (∀ q, q < i → edB lg x (kl L q) = true → L.length - q ≤ K) ∧ Below (w.heap.size + 1) (w.alloc (.cells #[.int .i64 n, .slice a lg.length cap] 28)) wr) (fun c _ => L.length - (intOf c).toNat)
  case atStart => exact ⟨0, by omega, rfl, fun q hq => absurd hq (by omega), Below.refl _ _⟩
  case round =>
    obtain ⟨i, hi, rfl, HJ, hbel⟩ := hrel
    have HBL := Lib.hid hbel
    clear hbel
    obtain ⟨c0, c1, cI, cB, hz⟩ := HA.out _ HBL.out
    have HCI := Lib.hid cI
    have HCB := Lib.hid cB
    clear cI cB
    by_cases hlt : i < L.length
    · obtain ⟨b2, off2, capl', hv, hc2, hmx2, hbk2, hcell2⟩ := HL.out.pos (by omega)
      simp only [Value.slice.injEq] at hv
      obtain ⟨rfl, -, rfl⟩ := hv
      obtain ⟨hk1, hk2⟩ := HV.out i hlt
      have e1 := (HCB.out.cell (p := ⟨b2, off2 + i, none⟩) hbk2).trans (hcell2 i hlt)
      rw [hk1] at e1
      obtain ⟨y, hy⟩ : ∃ y, y = kl L i := ⟨_, rfl⟩
      rw [← hy] at e1 hk2
      have HY := Lib.hid hy
      clear hcell2 hk1 hy
      go_wp2_with fail
      refine (areJoined_is n _ lg x y _ HCI.out hx (by omega)).mono ?_
      rintro e w3 ⟨rfl, hb⟩
      have HB3 := Lib.hid (HBL.out.trans (hb.mono hz))
      clear hb c0 c1 hz e1
      cases he : edB lg x y with
      | false =>
        have HT : Hid (∀ q, q < i + 1 → edB lg x (kl L q) = true → L.length - q ≤ K) := fun q hq h => by
          rcases Nat.lt_or_ge q i with h2 | h2
          · exact HJ.out q h2 h
          · obtain rfl : q = i := by omega
            rw [← HY.out, he] at h; cases h
        clear he
        go_wp2
        go_roundw
        case rel => exact ⟨i + 1, by omega, by go_num, HT.out, HB3.out⟩
        case measure => simp [intOf]; omega
      | true =>
        obtain ⟨D, hD⟩ : ∃ D : Int, D = (L.length : Int) - (i : Int) := ⟨_, rfl⟩
        have gD : IntKind.i64.wrap ((L.length : Int) - (i : Int)) = D := (IntWalk.i64_in _ (by omega)).trans hD.symm
        have gD' : (L.length : Int) - (i : Int) = D := hD.symm
        by_cases hd : L.length - i ≤ K
        · have q1 : decide (D > (K : Int)) = false := decide_eq_false (by omega)
          have q2 : decide ((K : Int) < D) = false := decide_eq_false (by omega)
          have HT : Hid (∀ q, q < i + 1 → edB lg x (kl L q) = true → L.length - q ≤ K) := fun q hq h => by
            rcases Nat.lt_or_ge q i with h2 | h2
            · exact HJ.out q h2 h
            · obtain rfl : q = i := by omega
              exact hd
          clear he hd hD
          go_wp2
          go_roundw
          case rel => exact ⟨i + 1, by omega, by go_num, HT.out, HB3.out⟩
          case measure => simp [intOf]; omega
        · have q1 : decide (D > (K : Int)) = true := decide_eq_true (by omega)
          have q2 : decide ((K : Int) < D) = true := decide_eq_true (by omega)
          have HN := Lib.hid (show r = false by rw [HR.out]; exact decide_eq_false fun h => hd (h i hlt (by rw [← HY.out]; exact he)))
          have HW := Lib.hid (HA.out _ HB3.out).2.2.2.1
          clear he hd hD
          go_wp2
          go_ret
          exact ⟨by rw [HN.out] <;> rfl, HW.out⟩
    · obtain rfl : i = L.length := by omega
      have HN := Lib.hid (show r = true by rw [HR.out]; exact decide_eq_true HJ.out)
      go_wp2
      go_ret
      exact ⟨by rw [HN.out] <;> rfl, HCB.out⟩

set_option maxRecDepth 100000 in
theorem enters_band : Enters 74 := fun args W => by rfl

set_option maxHeartbeats 1000000 in
set_option maxRecDepth 100000 in
theorem rule_band (n : Int) (v : Value) (lg : List Int) (hg : IsG n lg) (K : Nat) (hK : K ≤ 7) (q q2 : Nat) (W0 : World) (hI : Ints W0 v lg) (hB : BoxG q n v W0) (hc : W0.cell? ⟨q2, 0, none⟩ = some (.int .i64 K)) (hq2 : q2 < W0.heap.size) :
    RuleO 74 #[.pointer (some ⟨q, 0, none⟩), .pointer (some ⟨q2, 0, none⟩)] lg (fun L x => decide (BandL lg L K x)) W0 := by
  intro W L u x hL hV h7 hx hb
  obtain ⟨a, cap, rfl, -, -⟩ := hI.form
  have HI := Lib.hid (hI.on hb)
  have HL := Lib.hid hL
  have HV := Lib.hid hV
  have HG := Lib.hid hg
  obtain ⟨c0, c1, cz⟩ := hB.keep (below_grown hb) (by simp)
  have c2 := (hb.cell (p := ⟨q2, 0, none⟩) hq2).trans hc
  show Calls Try.prog 74 #[u, .int .i64 x, .pointer (some ⟨q, 0, none⟩), .pointer (some ⟨q2, 0, none⟩)] W (fun e W' => e = .returned (.bool (decide (BandL lg L K x))) ∧ Below W.heap.size W W')
  obtain ⟨b, hbb⟩ : ∃ b, b = decide (BandL lg L K x) := ⟨_, rfl⟩
  have HBB := Lib.hid hbb
  rw [← hbb]
  clear hI hL hB hb hg hbb hV hc
  go_enter Try.func74, Try.ntmps74
  go_wp2_with fail
  refine (staysIn n _ _ lg L x K _ HG.out HI.out HL.out HV.out h7 hx hK).mono ?_
  rintro e w1 ⟨rfl, hb1⟩
  rw [← HBB.out]
  have HB1 := Lib.hid hb1
  clear hb1
  go_wp2
  go_ret
  exact ⟨rfl, HB1.out⟩

set_option maxHeartbeats 2000000 in
set_option maxRecDepth 100000 in
theorem implBest (n : Int) (v : Value) (lg : List Int) (w : World) (h : Ints w v lg) :
    Calls Try.prog 43 #[.agg #[.int .i64 n, v]] w (GetsLB w.heap.size w (bandO n lg)) := by
  obtain ⟨a, cap, rfl, -, -⟩ := h.form
  have HI := Lib.hid h
  have HA := argG' (T := 28) (n := n) h
  have hmf : ∀ (fn : Fn) (first cap : Array Value) (w : World), (Instr.makeFunc fn first cap).run Try.prog w = .ok (.func fn first cap) w := fun _ _ _ _ => rfl
  obtain ⟨R, hR⟩ : ∃ R, R = bandO n lg := ⟨_, rfl⟩
  have HR := Lib.hid hR
  rw [← hR]
  clear h hR
  go_enter Try.func43, Try.ntmps43
  go_wp2_with fail
  refine (implIsG_any n _ lg _ (HI.out.alloc _)).mono ?_
  rintro e w1 ⟨r, rfl, hr, hb⟩
  have HB := Lib.hid (hb.mono (B' := w.heap.size + 1) (by simp))
  have HRR := Lib.hid hr
  clear hb hr
  obtain ⟨c0, c1, cI, cB, cz⟩ := HA.out _ HB.out
  have HCB := Lib.hid cB
  clear cI cB
  cases r with
  | false =>
    have HN := Lib.hid (show R = none by rw [HR.out]; unfold bandO; rw [if_neg (fun h => absurd (HRR.out.2 h) (by decide))])
    go_wp2
    go_ret2
    exact ⟨_, by rw [HN.out]; rfl, by rw [HN.out]; exact OwnI.nil0 _ _, HCB.out⟩
  | true =>
    have HG := Lib.hid (HRR.out.1 (by first | rfl | trivial))
    have HN := Lib.hid (show R = firstS (bandF n lg) lg.length by rw [HR.out]; unfold bandO; rw [if_pos HG.out])
    have hn7 := HG.out.2.1
    have hle : (lg.length : Int) ≤ n := by have := HG.out.2.2.1; omega
    have hge : n ≤ (lg.length : Int) := by have := HG.out.2.2.1; omega
    go_wp2
    clear c0 c1
    go_loopw [12] (fun c wr => ∃ j : Nat, j ≤ lg.length ∧ c = .int .i64 j ∧ Hid (∀ t, t < j → bandF n lg t = none) ∧ Below (w.heap.size + 1) (w.alloc (.cells #[.int .i64 n, .slice a lg.length cap] 28)) wr) (fun c _ => lg.length - (intOf c).toNat)
    case atStart => exact ⟨0, by omega, rfl, fun t ht => absurd ht (by omega), HB.out⟩
    case round =>
      clear HB
      obtain ⟨j, hj, rfl, HJ, hbel⟩ := hrel
      have HBL := Lib.hid hbel
      have hzr : w.heap.size + 1 ≤ wr.heap.size := by have := hbel.size; simpa using this
      clear hbel
      by_cases hlt : j < lg.length
      · have hjt : decide ((j : Int) < n) = true := decide_eq_true (by omega)
        obtain ⟨w2, hw2⟩ : ∃ w2, w2 = wr.alloc (.cells #[.int .i64 j] 3) := ⟨_, rfl⟩
        have HB2 := Lib.hid (show Below (w.heap.size + 1) (w.alloc (.cells #[.int .i64 n, .slice a lg.length cap] 28)) w2 by rw [hw2]; exact HBL.out.alloc hzr _)
        have HC2 := Lib.hid (show w2.cell? ⟨wr.heap.size, 0, none⟩ = some (.int .i64 j) by rw [hw2]; simp [go_sem])
        have HZ2 := Lib.hid (show w2.heap.size = wr.heap.size + 1 by rw [hw2]; simp)
        obtain ⟨c0, c1, cI, cB, cz⟩ := HA.out _ HBL.out
        clear cI cB
        go_wp2_with fail
        rw [← hw2]
        clear hw2 cz
        have HAG := Lib.hid (HA.out _ HB2.out)
        have HBX := Lib.hid (show BoxG w.heap.size n (.slice a lg.length cap) w2 from ⟨HAG.out.1, HAG.out.2.1, HAG.out.2.2.2.2⟩)
        refine (firstOrder_any _ _ _ enters_band n _ lg HG.out w2 (rule_band n _ lg HG.out j (by omega) w.heap.size wr.heap.size w2 HAG.out.2.2.1 HBX.out HC2.out (by have := HZ2.out; omega)) w.heap.size lg.length [] _ _ HAG.out.2.2.1 (OwnI.nil0 _ _) (by have := HZ2.out; omega) (Verts.nil lg) (by simp) (Below.refl _ _)).mono ?_
        rintro e w3 ⟨v3, rfl, ho, hb3⟩
        have HB3 := Lib.hid (HB2.out.trans (hb3.mono (by have := HZ2.out; omega)))
        obtain ⟨X, hX⟩ : ∃ X, X = srchS lg.length (fun (L : List Int) (u : Nat) => !decide ((u : Int) ∈ L) && decide (BandL lg L j u)) (fun _ => true) lg.length [] := ⟨_, rfl⟩
        rw [← hX] at ho ⊢
        have HX := Lib.hid (show bandF n lg j = X by rw [hX]; rfl)
        have HO := Lib.hid ho
        have HW := Lib.hid (HA.out _ HB3.out).2.2.2.1
        clear ho hb3 c0 c1 hX
        cases X with
        | some y =>
          have b0 : outS (some y) = true := rfl
          have HN2 := Lib.hid (show R = some y by rw [HN.out]; exact firstS_hit hlt HJ.out HX.out)
          go_wp2
          go_ret2
          exact ⟨_, by rw [HN2.out]; rfl, by rw [HN2.out]; exact HO.out, HW.out⟩
        | none =>
          have b0 : outS (none : Option (List Int)) = false := rfl
          have HT : Hid (∀ t, t < j + 1 → bandF n lg t = none) := fun t ht => by
            rcases Nat.lt_or_ge t j with h | h
            · exact HJ.out t h
            · obtain rfl : t = j := by omega
              exact HX.out
          go_wp2
          go_roundw
          case rel => exact ⟨j + 1, by omega, by go_num, HT.out, HB3.out⟩
          case measure => simp [intOf]; omega
      · obtain rfl : j = lg.length := by omega
        have hjf : decide ((lg.length : Int) < n) = false := decide_eq_false (by omega)
        have HN2 := Lib.hid (show R = none by rw [HN.out]; exact firstS_none.2 HJ.out)
        have HW := Lib.hid (HA.out _ HBL.out).2.2.2.1
        go_wp2
        go_ret2
        exact ⟨_, by rw [HN2.out]; rfl, by rw [HN2.out]; exact OwnI.nil0 _ _, HW.out⟩

end Go.Proofs.Yteikiifjiapjaaa
