/- IsPermutationModel. -/
import Derived.Test.YtbmpljclplddeabK5
import Derived.Test.YtbmpljclplddeabO1
import Derived.Test.YtbmpljclplddeabM1
import Derived.Test.YtbmpljclplddeabG4
import Derived.Test.YtbmpljclplddeabQ
import Derived.Test.YtbmpljclplddeabBx
namespace Go.Proofs.Ytbmpljclplddeab
set_option linter.unusedVariables false
set_option linter.unusedSimpArgs false
open Go.RowKit

/-- Two orders of the vertices, such that those are neighbours whom the orders turn round. -/
def PmP (n : Int) (lg a b : List Int) : Prop := OrdP n lg a ∧ OrdP n lg b ∧ ∀ v, v < lg.length → ∀ w, w < v → (decide (placeI a (v : Int) 0 < placeI a (w : Int) 0) != decide (placeI b (v : Int) 0 < placeI b (w : Int) 0)) = edB lg v w

instance (n : Int) (lg a b : List Int) : Decidable (PmP n lg a b) := by unfold PmP; exact inferInstance

def PmI (n : Int) (lg a b : List Int) : Prop := PomOk a b ∧ OrdP n lg a ∧ ∀ j, j < a.length → ∀ i, i < j → edB lg (kl a i) (kl a j) = decide (nth (placesL a b) j < nth (placesL a b) i)

theorem place_first (l : List Int) (x : Int) : ∀ (d j : Nat), l.length - j = d → (∃ i, j ≤ i ∧ i < l.length ∧ nth l i = x) → ∃ p : Nat, p < l.length ∧ placeI (l.drop j) x j = (p : Int) ∧ nth l p = x
  | 0, j, hd, ⟨i, h1, h2, _⟩ => by omega
  | d + 1, j, hd, ⟨i, h1, h2, h3⟩ => by
    rw [place_step l x j (by omega)]
    by_cases h : nth l j = x
    · rw [if_pos h]
      exact ⟨j, by omega, rfl, h⟩
    · rw [if_neg h]
      exact place_first l x d (j + 1) (by omega) ⟨i, by
        rcases Nat.lt_or_ge j i with h' | h'
        · exact h'
        · exact absurd (by rw [show j = i by omega]; exact h3) h, h2, h3⟩

theorem place_of {n : Int} {lg l : List Int} (h : Dist n lg l) {i : Nat} (hi : i < l.length) : placeI l (nth l i) 0 = (i : Int) := by
  obtain ⟨p, hp, h1, h2⟩ := place_first l (nth l i) l.length 0 (by omega) ⟨i, by omega, hi, rfl⟩
  rw [List.drop_zero] at h1
  have : p = i := h.inj hp hi (by unfold kl; rw [h2])
  rw [h1, this]

theorem full_bitO : ∀ (m : Fin 8) (v : Fin 7), v.val < m.val → bitAt ((2 ^ m.val - 1 : Nat) : Int) v.val = 1 := by decide +kernel

theorem ord_has {n : Int} {lg l : List Int} (h : OrdP n lg l) {v : Nat} (hv : v < lg.length) : ∃ i, i < l.length ∧ nth l i = (v : Int) := by
  obtain ⟨⟨s, hs, hS⟩, hl⟩ := h
  have hg := hS.1
  have hse := (ord_iff hs hg).2 ⟨⟨s, hs, hS⟩, hl⟩
  have hn : n.toNat = lg.length := by have := hg.2.2.1; omega
  have h7 : lg.length ≤ 7 := by have := hg.2.1; have := hg.2.2.1; omega
  have hb : bitAt s v = 1 := by
    rw [hse, hn]
    have h1 := full_bitO ⟨lg.length, by omega⟩ ⟨v, by omega⟩ hv
    have h2 : (2 : Int) ^ lg.length - 1 = ((2 ^ lg.length - 1 : Nat) : Int) := by
      have : 0 < 2 ^ lg.length := Nat.pow_pos (by decide)
      have h3 : ((2 ^ lg.length : Nat) : Int) = (2 : Int) ^ lg.length := by push_cast; rfl
      omega
    rw [h2]
    exact h1
  rcases setOf_only l 0 s (by omega) (by omega) hs v (by omega) hb with h0 | ⟨i, hi, hk⟩
  · have : bitAt (0 : Int) v = 0 := by unfold bitAt; simp
    omega
  · refine ⟨i, hi, ?_⟩
    have hd : Dist n lg l := ⟨s, hs, hS⟩
    rw [(hd.at hi).1, hk]

theorem pom_ord {n : Int} {lg a b : List Int} : (PomOk a b ∧ OrdP n lg a) ↔ (OrdP n lg a ∧ OrdP n lg b) := by
  have key : ∀ l : List Int, OrdP n lg l → PermP l ∧ (l.length : Int) = n := fun l hl => by
    obtain ⟨⟨s, hs, hS⟩, hn⟩ := hl
    have h1 := (ord_iff hs hS.1).2 ⟨⟨s, hs, hS⟩, hn⟩
    have h2 := hS.1.1
    have h3 : n.toNat = l.length := by omega
    refine ⟨⟨by omega, by rw [hs, h1, h3]⟩, hn⟩
  constructor
  · rintro ⟨⟨ha, hb, hl⟩, ho⟩
    refine ⟨ho, ?_⟩
    have hn := (key a ho).2
    have hg := ho.1.graph
    refine (ord_iff hb.2 hg).1 ?_
    rw [show n.toNat = b.length by omega]
  · rintro ⟨ha, hb⟩
    exact ⟨⟨(key a ha).1, (key b hb).1, by have := (key a ha).2; have := (key b hb).2; omega⟩, ha⟩

theorem edB_sym {n : Int} {lg : List Int} (hg : IsG n lg) {i j : Nat} (hi : i < lg.length) (hj : j < lg.length) : edB lg i j = edB lg j i := by unfold edB; rw [hg.sym hi hj]

theorem pmI_iff (n : Int) (lg a b : List Int) : PmI n lg a b ↔ PmP n lg a b := by
  have main : OrdP n lg a → OrdP n lg b → ((∀ j, j < a.length → ∀ i, i < j → edB lg (kl a i) (kl a j) = decide (nth (placesL a b) j < nth (placesL a b) i)) ↔
      ∀ v, v < lg.length → ∀ w, w < v → (decide (placeI a (v : Int) 0 < placeI a (w : Int) 0) != decide (placeI b (v : Int) 0 < placeI b (w : Int) 0)) = edB lg v w) := fun ha hb => by
    have hg := ha.1.graph
    have pbne : ∀ x y : Nat, x < lg.length → y < lg.length → x ≠ y → placeI b (x : Int) 0 ≠ placeI b (y : Int) 0 := fun x y hx hy hne he => by
      obtain ⟨i, hi, h1⟩ := ord_has hb hx
      obtain ⟨k, hk, h2⟩ := ord_has hb hy
      rw [← h1, ← h2, place_of hb.1 hi, place_of hb.1 hk] at he
      have : i = k := by omega
      subst this
      omega
    constructor
    · intro h v hv w hw
      obtain ⟨i, hi, h1⟩ := ord_has ha hv
      obtain ⟨k, hk, h2⟩ := ord_has ha (show w < lg.length by omega)
      have e1 : placeI a (v : Int) 0 = i := by rw [← h1]; exact place_of ha.1 hi
      have e2 : placeI a (w : Int) 0 = k := by rw [← h2]; exact place_of ha.1 hk
      have k1 : kl a i = v := by unfold kl; rw [h1]; rfl
      have k2 : kl a k = w := by unfold kl; rw [h2]; rfl
      have hne := pbne v w hv (by omega) (by omega)
      rw [e1, e2]
      rcases Nat.lt_trichotomy i k with hik | hik | hik
      · have h3 := h k hk i hik
        rw [k1, k2, placesL_nth a b k hk, placesL_nth a b i hi, h1, h2] at h3
        rw [h3, decide_eq_true (show (i : Int) < (k : Int) by omega)]
        by_cases h4 : placeI b (v : Int) 0 < placeI b (w : Int) 0
        · rw [decide_eq_true h4, decide_eq_false (by omega)]; rfl
        · rw [decide_eq_false h4, decide_eq_true (by omega)]; rfl
      · subst hik
        omega
      · have h3 := h i hi k hik
        rw [k1, k2, placesL_nth a b k hk, placesL_nth a b i hi, h1, h2, edB_sym hg (show w < lg.length by omega) hv] at h3
        rw [h3, decide_eq_false (show ¬ (i : Int) < (k : Int) by omega)]
        simp
    · intro h j hj i hij
      have hi : i < a.length := by omega
      obtain ⟨x1, x2, -⟩ := ha.1.at hi
      obtain ⟨y1, y2, -⟩ := ha.1.at hj
      have hne : kl a i ≠ kl a j := fun he => by have := ha.1.inj hi hj he; omega
      have e1 : placeI a (kl a i : Int) 0 = i := by rw [← x1]; exact place_of ha.1 hi
      have e2 : placeI a (kl a j : Int) 0 = j := by rw [← y1]; exact place_of ha.1 hj
      have hpn := pbne (kl a i) (kl a j) x2 y2 hne
      rw [placesL_nth a b j hj, placesL_nth a b i hi, x1, y1]
      rcases Nat.lt_trichotomy (kl a i) (kl a j) with h1 | h1 | h1
      · have h3 := h (kl a j) y2 (kl a i) h1
        rw [e1, e2, decide_eq_false (show ¬ (j : Int) < (i : Int) by omega)] at h3
        rw [edB_sym hg x2 y2, ← h3]
        simp
      · exact absurd h1 hne
      · have h3 := h (kl a i) x2 (kl a j) h1
        rw [e1, e2, decide_eq_true (show (i : Int) < (j : Int) by omega)] at h3
        rw [← h3]
        by_cases h4 : placeI b (kl a i : Int) 0 < placeI b (kl a j : Int) 0
        · rw [decide_eq_true h4, decide_eq_false (by omega)]; rfl
        · rw [decide_eq_false h4, decide_eq_true (by omega)]; rfl
  constructor
  · rintro ⟨h1, h2, h3⟩
    have ho := pom_ord.1 ⟨h1, h2⟩
    exact ⟨ho.1, ho.2, (main ho.1 ho.2).1 h3⟩
  · rintro ⟨h1, h2, h3⟩
    have ho := pom_ord.2 ⟨h1, h2⟩
    exact ⟨ho.1, ho.2, (main h1 h2).2 h3⟩

set_option maxHeartbeats 4000000 in
set_option maxRecDepth 100000 in
theorem implPM (n : Int) (v va vb : Value) (lg a b : List Int) (w : World) (h : Ints w v lg) (ha : Ints w va a) (hb : Ints w vb b) (hal : a.length ≤ 1048576) (hbl : b.length ≤ 1048576) :
    Calls Try.prog 43 #[.agg #[.int .i64 n, v], va, vb] w (SaysB (PmI n lg a b) w) := by
  obtain ⟨ag, capg, rfl, -, -⟩ := h.form
  obtain ⟨ad, cap, rfl, -, -⟩ := ha.form
  obtain ⟨bd, cap', rfl, -, -⟩ := hb.form
  have HG := Lib.hid h
  have HI := Lib.hid ha
  have HJ := Lib.hid hb
  clear h ha hb
  have F0 := Lib.hid (show Below w.heap.size w (w.alloc (.cells #[.int .i64 n, .slice ag lg.length capg] 33)) from (Below.refl _ w).alloc (Nat.le_refl _) _)
  have A0 := Lib.hid (show Box w.heap.size [.int .i64 n, .slice ag lg.length capg] (w.alloc (.cells #[.int .i64 n, .slice ag lg.length capg] 33)) from Box.new w _ _)
  obtain ⟨c, hcc⟩ : ∃ c, c = decide (PomOk a b) := ⟨_, rfl⟩
  have HCC := Lib.hid hcc
  clear hcc
  go_enter Try.func43, Try.ntmps43
  go_wp2_with fail
  refine (implPom _ _ a b _ (HI.out.on F0.out) (HJ.out.on F0.out) hal hbl).mono ?_
  rintro e w1 ⟨vr, rfl, ho, hb⟩
  rw [← HCC.out]
  obtain ⟨ar, capr, rfl, -, -⟩ := ho.ints.form
  have F1 := Lib.hid (F0.out.trans (hb.mono F0.out.size))
  have A1 := Lib.hid (A0.out.on hb)
  have HO := Lib.hid ho.ints
  clear ho hb A0 F0
  cases c with
  | false =>
    have HN := Lib.hid (show ¬ PomOk a b from of_decide_eq_false HCC.out.symm)
    go_wp2
    go_ret
    exact SaysB.no (fun h => HN.out h.1) F1.out
  | true =>
    have HP := Lib.hid (show PomOk a b from of_decide_eq_true HCC.out.symm)
    obtain ⟨pl, hpl⟩ : ∃ pl, pl = pomL a b := ⟨_, rfl⟩
    have HPL := Lib.hid (show pl = placesL a b by rw [hpl]; unfold pomL; rw [if_pos HP.out])
    have hpn : pl.length = a.length := by rw [HPL.out, placesL_length]
    rw [← hpl] at HO ⊢
    rw [hpn]
    rw [hpn] at HO
    clear hpl
    have x0 : w1.cell? ⟨w.heap.size, 0, none⟩ = some (.int .i64 n) := (A1.out).1 0 _ rfl
    have x1 : w1.cell? ⟨w.heap.size, 1, none⟩ = some (.slice ag lg.length capg) := (A1.out).1 1 _ rfl
    go_wp2_with fail
    refine (implIsOrder n _ _ lg a _ (HG.out.on F1.out) (HI.out.on F1.out) hal).mono ?_
    rintro e w2 ⟨r, rfl, hr, hb⟩
    have F2 := Lib.hid (F1.out.trans (hb.mono F1.out.size))
    have A2 := Lib.hid (A1.out.on hb)
    have HO2 := Lib.hid (HO.out.on hb)
    have HR := Lib.hid hr
    clear hr hb x0 x1
    cases r with
    | false =>
      go_wp2
      go_ret
      exact SaysB.no (fun h => absurd (HR.out.2 h.2.1) (by decide)) F2.out
    | true =>
      have HA := Lib.hid (HR.out.1 (by first | rfl | trivial))
      have HPN := Lib.hid hpn
      clear hpn
      go_wp2
      go_loopw [27] (fun i wr => ∃ j : Nat, j ≤ a.length ∧ i = .int .i64 j ∧ Below w2.heap.size w2 wr ∧ Hid (∀ q, q < j → ∀ i, i < q → edB lg (kl a i) (kl a q) = decide (nth pl q < nth pl i))) (fun i _ => a.length - (intOf i).toNat)
      case atStart => exact ⟨0, by omega, rfl, Below.refl _ _, fun i hi => absurd hi (by omega)⟩
      case round =>
        obtain ⟨j, hj, rfl, hbel, HO3⟩ := hrel
        have HB0 := Lib.hid hbel
        by_cases hltj : j < a.length
        · clear hbel
          go_wp2
          go_loopw [31] (fun i wr => ∃ k : Nat, k ≤ j ∧ i = .int .i64 k ∧ Below w2.heap.size w2 wr ∧ Hid (∀ i, i < k → edB lg (kl a i) (kl a j) = decide (nth pl j < nth pl i))) (fun i _ => j - (intOf i).toNat)
          case atStart => exact ⟨0, by omega, rfl, HB0.out, fun i hi => absurd hi (by omega)⟩
          case round =>
            clear HB0
            obtain ⟨k, hk, rfl, hbel, HO4⟩ := hrel
            have HBL := Lib.hid hbel
            have HW := Lib.hid (F2.out.trans (hbel.mono F2.out.size))
            have hz : w2.heap.size ≤ wr.heap.size := hbel.size
            by_cases hltk : k < j
            · have hka : k < a.length := by omega
              obtain ⟨x1, x2, x3⟩ := HA.out.1.at hka
              obtain ⟨y1, y2, y3⟩ := HA.out.1.at hltj
              obtain ⟨p, hp⟩ : ∃ z, z = nth pl k := ⟨_, rfl⟩
              obtain ⟨q, hq⟩ : ∃ z, z = nth pl j := ⟨_, rfl⟩
              obtain ⟨s, hs⟩ : ∃ z, z = kl a k := ⟨_, rfl⟩
              obtain ⟨t, ht⟩ : ∃ z, z = kl a j := ⟨_, rfl⟩
              rw [← hs] at x1 x2 x3
              rw [← ht] at y1 y2 y3
              obtain ⟨b1, off1, capa, hv, _, _, hb1, hcell⟩ := (HI.out.on HW.out).pos (by omega)
              simp only [Value.slice.injEq] at hv
              obtain ⟨rfl, -, rfl⟩ := hv
              obtain ⟨b2, off2, capb, hv, _, _, hb2, hcell'⟩ := (HO2.out.on hbel).pos (by have := HPN.out; omega)
              rw [HPN.out] at hv
              simp only [Value.slice.injEq] at hv
              obtain ⟨rfl, -, rfl⟩ := hv
              have e0 := hcell k hka
              have e1 := hcell j hltj
              have e2 := hcell' k (by rw [HPN.out]; exact hka)
              have e3 := hcell' j (by rw [HPN.out]; exact hltj)
              rw [x1] at e0
              rw [y1] at e1
              rw [← hp] at e2
              rw [← hq] at e3
              obtain ⟨E, hE⟩ : ∃ E, E = edB lg s t := ⟨_, rfl⟩
              have HE := Lib.hid (show E = edB lg (kl a k) (kl a j) by rw [hE, hs, ht])
              have HD := Lib.hid (show decide (q < p) = decide (nth pl j < nth pl k) by rw [hp, hq])
              have HX0 : Hid (∀ X : Since wr, Box w.heap.size [.int .i64 n, .slice ag lg.length capg] X.val) := fun X => A2.out.on (HBL.out.trans (X.prop.mono hz))
              have hx0 : ∀ X : Since wr, X.val.cell? ⟨w.heap.size, 0, none⟩ = some (.int .i64 n) := fun X => (HX0.out X).1 0 _ rfl
              have hx1 : ∀ X : Since wr, X.val.cell? ⟨w.heap.size, 1, none⟩ = some (.slice ag lg.length capg) := fun X => (HX0.out X).1 1 _ rfl
              have hy0 : ∀ X : Since wr, X.val.cell? ⟨b1, off1 + k, none⟩ = some (.int .i64 (s : Int)) := fun X => (X.prop.cell (p := ⟨b1, off1 + k, none⟩) hb1).trans e0
              have hy1 : ∀ X : Since wr, X.val.cell? ⟨b1, off1 + j, none⟩ = some (.int .i64 (t : Int)) := fun X => (X.prop.cell (p := ⟨b1, off1 + j, none⟩) hb1).trans e1
              have hy2 : ∀ X : Since wr, X.val.cell? ⟨b2, off2 + k, none⟩ = some (.int .i64 p) := fun X => (X.prop.cell (p := ⟨b2, off2 + k, none⟩) hb2).trans e2
              have hy3 : ∀ X : Since wr, X.val.cell? ⟨b2, off2 + j, none⟩ = some (.int .i64 q) := fun X => (X.prop.cell (p := ⟨b2, off2 + j, none⟩) hb2).trans e3
              have HC1 : Hid (∀ X : Since wr, Calls Try.prog 85 #[.agg #[.int .i64 n, .slice ag lg.length capg], .int .i64 (s : Int), .int .i64 (t : Int)] X.val fun e w' => e = .returned (.bool E) ∧ Below X.val.heap.size X.val w') := fun X => by
                rw [hE]; exact areJoined_is n _ lg s t _ (HG.out.on (HW.out.trans (X.prop.mono HW.out.size))) x2 (by omega)
              obtain ⟨D, hD⟩ : ∃ D, D = decide (q < p) := ⟨_, rfl⟩
              have q1 : decide (q < p) = D := hD.symm
              have HDD := Lib.hid (show D = decide (nth pl j < nth pl k) by rw [hD]; exact HD.out)
              clear hcell hcell' hp hq hs ht x1 y1 e0 e1 e2 e3 hE hD hbel x2 x3 y2 y3
              by_cases hED : E = D
              · have d0 : (E != D) = false := by rw [hED]; simp
                have d1 : (!E == D) = false := by rw [hED]; cases D <;> rfl
                have HN : Hid (∀ i, i < k + 1 → edB lg (kl a i) (kl a j) = decide (nth pl j < nth pl i)) := fun i hi => by
                  rcases Nat.lt_or_ge i k with h | h
                  · exact HO4.out i h
                  · obtain rfl : i = k := by omega
                    rw [← HE.out, ← HDD.out]; exact hED
                clear hED HO4
                go_wp2
                refine wp_region_since (by kernel_rfl) (by kernel_rfl) ?_
                repeat (go_big_quiet_step (with_reducible exact since_call (HC1.out _)))
                refine wpQuiet_nil ?_
                intro Y
                have HB3 := Lib.hid (HBL.out.trans (Y.prop.mono hz))
                clear hx0 hx1 hy0 hy1 hy2 hy3
                go_wp2
                go_roundw
                case rel => exact ⟨k + 1, by omega, by go_num, HB3.out, HN.out⟩
                case measure => simp [intOf]; omega
              · have d0 : (E != D) = true := by rw [bne_iff_ne]; exact hED
                have d1 : (!E == D) = true := by cases E <;> cases D <;> first | rfl | exact absurd rfl hED
                have HN := Lib.hid (show ¬ PmI n lg a b from fun h => hED (by rw [HE.out, HDD.out, HPL.out]; exact h.2.2 j hltj k hltk))
                clear hED
                go_wp2
                refine wp_region_since (by kernel_rfl) (by kernel_rfl) ?_
                repeat (go_big_quiet_step (with_reducible exact since_call (HC1.out _)))
                refine wpQuiet_nil ?_
                intro Y
                have HB3 := Lib.hid (HW.out.trans (Y.prop.mono HW.out.size))
                clear hx0 hx1 hy0 hy1 hy2 hy3
                go_wp2
                go_ret
                exact SaysB.no HN.out HB3.out
            · obtain rfl : k = j := by omega
              have HN : Hid (∀ q, q < k + 1 → ∀ i, i < q → edB lg (kl a i) (kl a q) = decide (nth pl q < nth pl i)) := fun q hq i hi => by
                rcases Nat.lt_or_ge q k with h | h
                · exact HO3.out q h i hi
                · obtain rfl : q = k := by omega
                  exact HO4.out i hi
              go_wp2
              go_roundw
              case rel => exact ⟨k + 1, by omega, by go_num, hbel, HN.out⟩
              case measure => simp [intOf]; omega
        · obtain rfl : j = a.length := by omega
          have HN := Lib.hid (show PmI n lg a b from ⟨HP.out, HA.out, by rw [← HPL.out]; exact HO3.out⟩)
          have HW := Lib.hid (F2.out.trans (hbel.mono F2.out.size))
          clear hbel
          go_wp2
          go_ret
          exact SaysB.yes HN.out HW.out

set_option maxHeartbeats 4000000 in
set_option maxRecDepth 100000 in
theorem specPM (n : Int) (v va vb : Value) (lg a b : List Int) (w : World) (h : Ints w v lg) (ha : Ints w va a) (hb : Ints w vb b) (hal : a.length ≤ 1048576) (hbl : b.length ≤ 1048576) :
    Calls Try.prog 41 #[.agg #[.int .i64 n, v], va, vb] w (SaysB (PmP n lg a b) w) := by
  obtain ⟨ag, capg, rfl, -, -⟩ := h.form
  obtain ⟨ad, cap, rfl, -, -⟩ := ha.form
  obtain ⟨bd, cap', rfl, -, -⟩ := hb.form
  have HG := Lib.hid h
  have HI := Lib.hid ha
  have HJ := Lib.hid hb
  clear h ha hb
  have F0 := Lib.hid (show Below w.heap.size w (w.alloc (.cells #[.int .i64 n, .slice ag lg.length capg] 33)) from (Below.refl _ w).alloc (Nat.le_refl _) _)
  have A0 := Lib.hid (show Box w.heap.size [.int .i64 n, .slice ag lg.length capg] (w.alloc (.cells #[.int .i64 n, .slice ag lg.length capg] 33)) from Box.new w _ _)
  go_enter Try.func41, Try.ntmps41
  go_wp2_with fail
  refine (specIsOrder n _ _ lg a _ (HG.out.on F0.out) (HI.out.on F0.out) hal).mono ?_
  rintro e w1 ⟨r, rfl, hr, hb⟩
  have F1 := Lib.hid (F0.out.trans (hb.mono F0.out.size))
  have A1 := Lib.hid (A0.out.on hb)
  have HR := Lib.hid hr
  clear hr hb A0 F0
  have x0 : w1.cell? ⟨w.heap.size, 0, none⟩ = some (.int .i64 n) := (A1.out).1 0 _ rfl
  have x1 : w1.cell? ⟨w.heap.size, 1, none⟩ = some (.slice ag lg.length capg) := (A1.out).1 1 _ rfl
  cases r with
  | false =>
    go_wp2
    go_ret
    exact SaysB.no (fun h => absurd (HR.out.2 h.1) (by decide)) F1.out
  | true =>
    have HA := Lib.hid (HR.out.1 (by first | rfl | trivial))
    go_wp2_with fail
    refine (specIsOrder n _ _ lg b _ (HG.out.on F1.out) (HJ.out.on F1.out) hbl).mono ?_
    rintro e w2 ⟨r, rfl, hr, hb⟩
    have F2 := Lib.hid (F1.out.trans (hb.mono F1.out.size))
    have A2 := Lib.hid (A1.out.on hb)
    have HS := Lib.hid hr
    clear hr hb x0 x1
    have x0 : w2.cell? ⟨w.heap.size, 0, none⟩ = some (.int .i64 n) := (A2.out).1 0 _ rfl
    have x1 : w2.cell? ⟨w.heap.size, 1, none⟩ = some (.slice ag lg.length capg) := (A2.out).1 1 _ rfl
    cases r with
    | false =>
      go_wp2
      go_ret
      exact SaysB.no (fun h => absurd (HS.out.2 h.2.1) (by decide)) F2.out
    | true =>
      have HB := Lib.hid (HS.out.1 (by first | rfl | trivial))
      have hnl : (lg.length : Int) = n := HA.out.1.graph.2.2.1
      have hnle : n ≤ (lg.length : Int) := by omega
      have hnge : (lg.length : Int) ≤ n := by omega
      have h7 : lg.length ≤ 7 := by have := HA.out.1.graph.2.1; omega
      clear hnl
      go_wp2
      clear x0 x1
      go_loopw [7] (fun i wr => ∃ j : Nat, j ≤ lg.length ∧ i = .int .i64 j ∧ Below w2.heap.size w2 wr ∧ Hid (∀ v, v < j → ∀ w, w < v → (decide (placeI a (v : Int) 0 < placeI a (w : Int) 0) != decide (placeI b (v : Int) 0 < placeI b (w : Int) 0)) = edB lg v w)) (fun i _ => lg.length - (intOf i).toNat)
      case atStart => exact ⟨0, by omega, rfl, Below.refl _ _, fun i hi => absurd hi (by omega)⟩
      case round =>
        obtain ⟨j, hj, rfl, hbel, HO3⟩ := hrel
        have HB0 := Lib.hid hbel
        have x0 : wr.cell? ⟨w.heap.size, 0, none⟩ = some (.int .i64 n) := (A2.out.on hbel).1 0 _ rfl
        have x1 : wr.cell? ⟨w.heap.size, 1, none⟩ = some (.slice ag lg.length capg) := (A2.out.on hbel).1 1 _ rfl
        by_cases hltj : j < lg.length
        · have hji : (j : Int) < n := by omega
          clear hbel
          go_wp2
          clear x0 x1
          go_loopw [8] (fun i wr => ∃ k : Nat, k ≤ j ∧ i = .int .i64 k ∧ Below w2.heap.size w2 wr ∧ Hid (∀ w, w < k → (decide (placeI a (j : Int) 0 < placeI a (w : Int) 0) != decide (placeI b (j : Int) 0 < placeI b (w : Int) 0)) = edB lg j w)) (fun i _ => j - (intOf i).toNat)
          case atStart => exact ⟨0, by omega, rfl, HB0.out, fun i hi => absurd hi (by omega)⟩
          case round =>
            clear HB0
            obtain ⟨k, hk, rfl, hbel, HO4⟩ := hrel
            have HBL := Lib.hid hbel
            have HW := Lib.hid (F2.out.trans (hbel.mono F2.out.size))
            by_cases hltk : k < j
            · have hkl : k < lg.length := by omega
              have x0 : wr.cell? ⟨w.heap.size, 0, none⟩ = some (.int .i64 n) := (A2.out.on hbel).1 0 _ rfl
              have x1 : wr.cell? ⟨w.heap.size, 1, none⟩ = some (.slice ag lg.length capg) := (A2.out.on hbel).1 1 _ rfl
              obtain ⟨p1, hp1⟩ : ∃ z, z = placeI a (j : Int) 0 := ⟨_, rfl⟩
              obtain ⟨p2, hp2⟩ : ∃ z, z = placeI a (k : Int) 0 := ⟨_, rfl⟩
              obtain ⟨p3, hp3⟩ : ∃ z, z = placeI b (j : Int) 0 := ⟨_, rfl⟩
              obtain ⟨p4, hp4⟩ : ∃ z, z = placeI b (k : Int) 0 := ⟨_, rfl⟩
              have HH := Lib.hid (And.intro hp1 (And.intro hp2 (And.intro hp3 hp4)))
              clear hbel
              go_wp2_with fail
              refine (place_is _ a (j : Int) _ (HI.out.on HW.out) hal).mono ?_
              rintro e w3 ⟨rfl, rfl⟩
              rw [← hp1]
              clear hp1
              go_wp2_with fail
              refine (place_is _ a (k : Int) _ (HI.out.on HW.out) hal).mono ?_
              rintro e w3 ⟨rfl, rfl⟩
              rw [← hp2]
              clear hp2
              go_wp2_with fail
              refine (place_is _ b (j : Int) _ (HJ.out.on HW.out) hbl).mono ?_
              rintro e w3 ⟨rfl, rfl⟩
              rw [← hp3]
              clear hp3
              go_wp2_with fail
              refine (place_is _ b (k : Int) _ (HJ.out.on HW.out) hbl).mono ?_
              rintro e w3 ⟨rfl, rfl⟩
              rw [← hp4]
              clear hp4
              obtain ⟨D, hD⟩ : ∃ D, D = decide (p1 < p2) := ⟨_, rfl⟩
              obtain ⟨G, hG⟩ : ∃ G, G = decide (p3 < p4) := ⟨_, rfl⟩
              have q1 : decide (p1 < p2) = D := hD.symm
              have q2 : decide (p3 < p4) = G := hG.symm
              obtain ⟨M, hM⟩ : ∃ M, M = (D != G) := ⟨_, rfl⟩
              have q3 : (D != G) = M := hM.symm
              have q4 : (!D == G) = M := by rw [hM]; cases D <;> cases G <;> rfl
              have HM := Lib.hid (show M = (decide (placeI a (j : Int) 0 < placeI a (k : Int) 0) != decide (placeI b (j : Int) 0 < placeI b (k : Int) 0)) by rw [hM, hD, hG, HH.out.1, HH.out.2.1, HH.out.2.2.1, HH.out.2.2.2])
              clear hD hG hM
              go_wp2_with fail
              refine (l2Edge_is n _ lg j k _ (HG.out.on HW.out) hltj (by omega)).mono ?_
              rintro e w4 ⟨rfl, hb4⟩
              have HB4 := Lib.hid (HBL.out.trans (hb4.mono HBL.out.size))
              have HW4 := Lib.hid (F2.out.trans (HB4.out.mono F2.out.size))
              obtain ⟨E, hE⟩ : ∃ E, E = edB lg j k := ⟨_, rfl⟩
              have HE := Lib.hid hE
              rw [← hE]
              clear hb4 hE x0 x1
              by_cases hME : M = E
              · have d0 : (M != E) = false := by rw [hME]; simp
                have d1 : (!M == E) = false := by rw [hME]; cases E <;> rfl
                have HN : Hid (∀ w, w < k + 1 → (decide (placeI a (j : Int) 0 < placeI a (w : Int) 0) != decide (placeI b (j : Int) 0 < placeI b (w : Int) 0)) = edB lg j w) := fun i hi => by
                  rcases Nat.lt_or_ge i k with h | h
                  · exact HO4.out i h
                  · obtain rfl : i = k := by omega
                    rw [← HM.out, ← HE.out]; exact hME
                clear hME HO4
                go_wp2
                go_roundw
                case rel => exact ⟨k + 1, by omega, by go_num, HB4.out, HN.out⟩
                case measure => simp [intOf]; omega
              · have d0 : (M != E) = true := by rw [bne_iff_ne]; exact hME
                have d1 : (!M == E) = true := by cases M <;> cases E <;> first | rfl | exact absurd rfl hME
                have HN := Lib.hid (show ¬ PmP n lg a b from fun h => hME (by rw [HM.out, HE.out]; exact h.2.2 j hltj k hltk))
                clear hME
                go_wp2
                go_ret
                exact SaysB.no HN.out HW4.out
            · obtain rfl : k = j := by omega
              have HN : Hid (∀ v, v < k + 1 → ∀ w, w < v → (decide (placeI a (v : Int) 0 < placeI a (w : Int) 0) != decide (placeI b (v : Int) 0 < placeI b (w : Int) 0)) = edB lg v w) := fun v hv w hw => by
                rcases Nat.lt_or_ge v k with h | h
                · exact HO3.out v h w hw
                · obtain rfl : v = k := by omega
                  exact HO4.out w hw
              go_wp2
              go_roundw
              case rel => exact ⟨k + 1, by omega, by go_num, hbel, HN.out⟩
              case measure => simp [intOf]; omega
        · obtain rfl : j = lg.length := by omega
          have HN := Lib.hid (show PmP n lg a b from ⟨HA.out, HB.out, HO3.out⟩)
          have HW := Lib.hid (F2.out.trans (hbel.mono F2.out.size))
          clear hbel
          go_wp2
          go_ret
          exact SaysB.yes HN.out HW.out

end Go.Proofs.Ytbmpljclplddeab
