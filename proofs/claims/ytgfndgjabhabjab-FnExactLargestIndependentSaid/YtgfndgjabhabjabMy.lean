/- LargestIndependent. -/
import Derived.Test.YtgfndgjabhabjabMx
import Derived.Test.YtgfndgjabhabjabV3
import Derived.Test.YtgfndgjabhabjabG9
namespace Go.Proofs.Ytgfndgjabhabjab
set_option linter.unusedVariables false
set_option linter.unusedSimpArgs false
open Go.RowKit

def indB (n : Int) (l : List Int) (X : Nat) : Bool := decide (IndepS n l (X : Int))

theorem bestN_congr {p q : Nat → Bool} (k : Nat) (h : ∀ X, X < k → p X = q X) : bestN p k = bestN q k := by
  induction k with
  | zero => rfl
  | succ k ih =>
    have e1 : bestN p (k + 1) = if popN (bestN p k) < popN k ∧ p k = true then k else bestN p k := rfl
    have e2 : bestN q (k + 1) = if popN (bestN q k) < popN k ∧ q k = true then k else bestN q k := rfl
    rw [e1, e2, ih fun X hX => h X (by omega), h k (by omega)]

theorem comp_isG {n : Int} {l : List Int} (hg : IsG n l) : IsG n (compL l) := by
  have hn := hg.2.2.1
  have h1 := hg.1
  have h7 := hg.2.1
  have := isG_adjL l.length (symR fun i j => !edB l i j) (by omega) (by omega) (fun i _ => symR_self _ i) (fun i j _ _ => symR_comm _ i j)
  rw [hn] at this
  exact this

theorem comp_row {n : Int} {l : List Int} (hg : IsG n l) {u v : Nat} (hu : u < l.length) (hv : v < l.length) (hne : u ≠ v) : (rowN (compL l) u).testBit v = !(rowN l u).testBit v := by
  have hc := comp_isG hg
  have e1 := adjL_bit l.length (symR fun i j => !edB l i j) u v hu hv
  have e2 : nth (adjL l.length (symR fun i j => !edB l i j)) u = ((rowN (compL l) u : Nat) : Int) := (hc.row_lt u (by rw [compL_length]; exact hu)).2
  have e3 : edB l u v = edB l v u := by unfold edB; rw [hg.sym hu hv]
  have e4 : symR (fun i j => !edB l i j) u v = !edB l u v := by
    unfold symR
    rcases Nat.lt_trichotomy u v with h | h | h
    · rw [if_pos h]
    · exact absurd h hne
    · rw [if_neg (by omega), if_pos h, e3]
  have e5 : edB l u v = (rowN l u).testBit v := by
    have h1 := edB_iff l u v
    rw [(hg.row_lt u hu).2, bitAt_nat] at h1
    exact Bool.eq_iff_iff.2 h1
  rw [e2, e4, e5] at e1
  rw [Bool.eq_iff_iff, ← bitAt_nat, e1]
  cases (rowN l u).testBit v <;> simp

theorem indep_cl {n : Int} {l : List Int} (hg : IsG n l) {X : Nat} (hX : X < 2 ^ l.length) : cliB n (compL l) X = indB n l X := by
  have hl : l.length ≤ 7 := by have := hg.2.1; have := hg.2.2.1; omega
  have hX7 : X < 128 := Nat.lt_of_lt_of_le hX (two_le _ hl)
  unfold cliB indB
  refine decide_eq_decide.2 ((clique_cl (comp_isG hg) X).trans ?_)
  have hp : ((2 ^ l.length : Nat) : Int) = (2 : Int) ^ l.length := by push_cast; rfl
  have hn : n.toNat = l.length := by have := hg.2.2.1; omega
  have key : ∀ v, v < l.length → (bits .and .i64 (X : Int) (nth l v) = 0 ↔ ∀ i, X.testBit i = true → (rowN l v).testBit i = false) := fun v hv => by
    obtain ⟨r1, r2⟩ := hg.row_lt v hv
    have h7 := two_le l.length hl
    rw [r2, (bits_nat X (rowN l v) hX7 (by omega)).1]
    constructor
    · intro h i hi
      have h2 : X &&& rowN l v = 0 := by exact_mod_cast h
      have h3 : (X &&& rowN l v).testBit i = false := by rw [h2]; simp
      rw [Nat.testBit_and, hi, Bool.true_and] at h3
      exact h3
    · intro h
      have : X &&& rowN l v = 0 := eq_of_bits fun i => by
        rw [Nat.testBit_and, Bool.and_eq_true, Nat.zero_testBit]
        exact ⟨fun hh => by rw [h i hh.1] at hh; exact absurd hh.2 (by simp), fun hh => by cases hh⟩
      rw [this]; rfl
  unfold Cl IndepS IsS
  rw [compL_length, hn]
  constructor
  · rintro ⟨-, h⟩
    refine ⟨⟨hg, by omega, by omega⟩, fun v hv hb => (key v hv).2 fun i hi => ?_⟩
    have hb' := (bitAt_nat X v).1 hb
    by_cases e : v = i
    · subst e; exact row_self hg hv
    · have h1 := h v i hb' hi e
      rw [comp_row hg hv (bit_lt hX hi) e] at h1
      simpa using h1
  · rintro ⟨-, h⟩
    refine ⟨hX, fun u v hu hv hne => ?_⟩
    rw [comp_row hg (bit_lt hX hu) (bit_lt hX hv) hne, (key u (bit_lt hX hu)).1 (h u (bit_lt hX hu) ((bitAt_nat X u).2 hu)) v hv]
    rfl

theorem big_comp {n : Int} {l : List Int} (hg : IsG n l) : bigR n (compL l) (cliB n (compL l)) = bigR n l (indB n l) := by
  unfold bigR
  rw [if_pos hg, if_pos (comp_isG hg), compL_length, bestN_congr _ fun X hX => indep_cl hg hX]

theorem big_zero : bigR 0 [] (cliB 0 []) = 0 := by
  unfold bigR
  exact if_neg (fun h => absurd h.1 (by decide))

set_option maxHeartbeats 2000000 in
set_option maxRecDepth 100000 in
theorem specBigI (n : Int) (v : Value) (l : List Int) (w : World) (h : Ints w v l) :
    Calls Try.prog 36 #[.agg #[.int .i64 n, v]] w (SaysN (bigR n l (indB n l)) w) := by
  obtain ⟨a, cap, rfl, -, -⟩ := h.form
  have HA := argG' (T := 28) (n := n) h
  clear h
  by_cases hg : IsG n l
  · have HG := Lib.hid hg
    have hn1 := hg.1
    have hn7 := hg.2.1
    obtain ⟨F, hF⟩ : ∃ F, F = 2 ^ l.length := ⟨_, rfl⟩
    obtain ⟨N, eN, hN0⟩ : ∃ N, (2 : Int) ^ n.toNat = N ∧ N = (F : Int) := ⟨_, rfl, by rw [hF]; exact (full_cast hg).2.2.2.1⟩
    have hF2 : F ≤ 128 := by rw [hF]; exact (full_cast hg).2.1
    have hF1 : 0 < F := by rw [hF]; exact (full_cast hg).2.2.1
    have HN := Lib.hid (show bigR n l (indB n l) = ((bestN (indB n l) F : Nat) : Int) by unfold bigR; rw [if_pos hg, hF])
    subst hN0
    have q6 : IntKind.i64.wrap (1 * (F : Int)) = (F : Int) := IntWalk.i64_in _ (by omega) |>.trans (by omega)
    clear hg hF
    go_enter Try.func36, Try.ntmps36
    go_wp2
    go_loopw [3, 4] (fun s i wr => ∃ k : Nat, 1 ≤ k ∧ k ≤ F ∧ i = .int .i64 k ∧ s = .int .i64 ((bestN (indB n l) k : Nat) : Int) ∧ Below (w.heap.size + 1) (w.alloc (.cells #[.int .i64 n, .slice a l.length cap] 28)) wr) (fun _ i _ => F - (intOf i).toNat)
    case atStart => exact ⟨1, by omega, by omega, rfl, rfl, Below.refl _ _⟩
    case round =>
      obtain ⟨k, hk0, hk, rfl, rfl, hbel⟩ := hrel
      obtain ⟨c0, c1, cI, cB, hz⟩ := HA.out _ hbel
      have HBL := Lib.hid hbel
      have HCI := Lib.hid cI
      clear hbel cI cB
      have hBle := bestN_le (indB n l) k
      have HBS := Lib.hid (show bestN (indB n l) (k + 1) = if popN (bestN (indB n l) k) < popN k ∧ indB n l k = true then k else bestN (indB n l) k from rfl)
      obtain ⟨b0, hb0⟩ : ∃ b0, b0 = bestN (indB n l) k := ⟨_, rfl⟩
      have HB0 := Lib.hid hb0
      rw [← hb0] at hBle HBS ⊢
      clear hb0
      go_wp2_with fail
      refine (specIsG_any n _ l _ HCI.out).mono ?_
      rintro e wa ⟨r, rfl, hr, hb⟩
      obtain rfl : r = true := hr.2 HG.out
      have HB2 := Lib.hid (HBL.out.trans (hb.mono hz))
      clear hb hr c0 c1 hz HCI
      obtain ⟨c0, c1, -, cB, hz⟩ := HA.out _ HB2.out
      have HCB2 := Lib.hid cB
      clear cB
      by_cases hlt : k < F
      · go_wp2_with fail
        refine (specCountSet (k : Int) _).mono ?_
        rintro e wb ⟨rfl, hb⟩
        have HB3 := Lib.hid (HB2.out.trans (hb.mono hz))
        clear hb c0 c1 hz
        obtain ⟨c0, c1, -, -, hz⟩ := HA.out _ HB3.out
        rw [popU_popM k (by omega)]
        go_wp2_with fail
        refine (specCountSet (b0 : Int) _).mono ?_
        rintro e wc ⟨rfl, hb⟩
        have HB4 := Lib.hid (HB3.out.trans (hb.mono hz))
        clear hb c0 c1 hz
        obtain ⟨c0, c1, cI, -, hz⟩ := HA.out _ HB4.out
        have HCI := Lib.hid cI
        clear cI
        rw [popU_popM b0 (by omega)]
        obtain ⟨p1, hp1⟩ : ∃ p1, p1 = popN k := ⟨_, rfl⟩
        obtain ⟨p0, hp0⟩ : ∃ p0, p0 = popN b0 := ⟨_, rfl⟩
        rw [← hp0, ← hp1] at HBS
        rw [← hp0, ← hp1]
        clear hp0 hp1
        by_cases hgt : p0 < p1
        · have d0 : decide ((p0 : Int) < (p1 : Int)) = true := decide_eq_true (by omega)
          have d0' : decide (p0 < p1) = true := decide_eq_true hgt
          have HGT := Lib.hid hgt
          clear hgt
          go_wp2_with fail
          refine ((specIndep n _ l k _ HCI.out).mono fun _ _ h => h.dec).mono ?_
          rintro e wd ⟨rfl, hb⟩
          have HB5 := Lib.hid (HB4.out.trans (hb.mono hz))
          clear hb c0 c1 hz d0 d0'
          by_cases hs : IndepS n l k
          · have HT := Lib.hid (show bestN (indB n l) (k + 1) = k by rw [HBS.out, if_pos ⟨HGT.out, by unfold indB; exact decide_eq_true hs⟩])
            have d1 : decide (IndepS n l k) = true := by simp [hs]
            rw [d1]
            clear hs d1
            go_wp2
            go_roundw
            case rel => exact ⟨k + 1, by omega, by omega, by go_num, by rw [HT.out], HB5.out⟩
            case measure => simp [intOf]; omega
          · have HT := Lib.hid (show bestN (indB n l) (k + 1) = b0 by rw [HBS.out, if_neg (fun h => hs (by have := h.2; unfold indB at this; exact of_decide_eq_true this))])
            have d1 : decide (IndepS n l k) = false := by simp [hs]
            rw [d1]
            clear hs d1
            go_wp2
            go_roundw
            case rel => exact ⟨k + 1, by omega, by omega, by go_num, by rw [HT.out], HB5.out⟩
            case measure => simp [intOf]; omega
        · have d0 : decide ((p0 : Int) < (p1 : Int)) = false := decide_eq_false (by omega)
          have d0' : decide (p0 < p1) = false := decide_eq_false hgt
          have HT := Lib.hid (show bestN (indB n l) (k + 1) = b0 by rw [HBS.out, if_neg (fun h => hgt h.1)])
          clear hgt
          go_wp2
          go_roundw
          case rel => exact ⟨k + 1, by omega, by omega, by go_num, by rw [HT.out], HB4.out⟩
          case measure => simp [intOf]; omega
      · obtain rfl : k = F := by omega
        have HE := Lib.hid (show (b0 : Int) = bigR n l (indB n l) by rw [HN.out, HB0.out])
        go_wp2
        go_ret
        exact ⟨congrArg (fun z => Ending.returned (Value.int .i64 z)) HE.out, HCB2.out⟩
  · have HNO := Lib.hid hg
    have HN := Lib.hid (show (0 : Int) = bigR n l (indB n l) by unfold bigR; rw [if_neg hg])
    clear hg
    go_enter Try.func36, Try.ntmps36
    go_wp2
    go_loopw [3, 4] (fun s i wr => i = .int .i64 1 ∧ s = .int .i64 0 ∧ Below (w.heap.size + 1) (w.alloc (.cells #[.int .i64 n, .slice a l.length cap] 28)) wr) (fun _ _ _ => 0)
    case atStart => exact ⟨rfl, rfl, Below.refl _ _⟩
    case round =>
      obtain ⟨rfl, rfl, hbel⟩ := hrel
      obtain ⟨c0, c1, cI, cB, hz⟩ := HA.out _ hbel
      have HCI := Lib.hid cI
      have HCB := Lib.hid cB
      clear hbel cI cB
      go_wp2_with fail
      refine (specIsG_any n _ l _ HCI.out).mono ?_
      rintro e wa ⟨r, rfl, hr, hb⟩
      obtain rfl : r = false := by
        cases r with
        | false => rfl
        | true => exact absurd (hr.1 rfl) HNO.out
      have HCB2 := Lib.hid (HCB.out.trans (hb.mono HCB.out.size))
      clear hb hr
      go_wp2
      go_ret
      exact ⟨congrArg (fun z => Ending.returned (Value.int .i64 z)) HN.out, HCB2.out⟩


set_option maxHeartbeats 1000000 in
set_option maxRecDepth 100000 in
theorem implBigI (n : Int) (v : Value) (l : List Int) (w : World) (h : Ints w v l) :
    Calls Try.prog 37 #[.agg #[.int .i64 n, v]] w (SaysN (bigR n l (indB n l)) w) := by
  obtain ⟨a, cap, rfl, -, -⟩ := h.form
  have HA := argG' (T := 28) (n := n) h
  have HI := Lib.hid h
  clear h
  by_cases hg : IsG n l
  · have HG := Lib.hid hg
    have HE := Lib.hid (big_comp hg)
    clear hg
    go_enter Try.func37, Try.ntmps37
    go_wp2_with fail
    refine (implComplement_yes n _ l _ (HI.out.alloc _) HG.out).mono ?_
    rintro e w1 ⟨v1, rfl, ho, hb⟩
    obtain ⟨a1, cap1, rfl, -, -⟩ := ho.ints.form
    have HO := Lib.hid ho.ints
    have HB := Lib.hid (hb.mono (B' := w.heap.size + 1) (by simp))
    clear ho hb
    obtain ⟨w2, hw2⟩ : ∃ w2, w2 = w1.alloc (.cells #[.int .i64 n, .slice a1 (compL l).length cap1] 28) := ⟨_, rfl⟩
    have HB2 := Lib.hid (show Below (w.heap.size + 1) (w.alloc (.cells #[.int .i64 n, .slice a l.length cap] 28)) w2 by rw [hw2]; exact HB.out.alloc (HA.out _ HB.out).2.2.2.2 _)
    have HO2 := Lib.hid (show Ints w2 (.slice a1 (compL l).length cap1) (compL l) by rw [hw2]; exact HO.out.alloc _)
    have HDB := Lib.hid (HA.out _ HB2.out).2.2.2.1
    go_wp2_with fail
    rw [← hw2]
    clear hw2
    refine (implLarge n _ (compL l) _ HO2.out).mono ?_
    rintro e w3 ⟨rfl, hb⟩
    have HB3 := Lib.hid (HDB.out.trans (hb.mono HDB.out.size))
    clear hb
    rw [HE.out]
    go_wp2
    go_ret
    exact ⟨rfl, HB3.out⟩
  · have HG := Lib.hid hg
    have HE := Lib.hid (show (0 : Int) = bigR n l (indB n l) by unfold bigR; rw [if_neg hg])
    clear hg
    go_enter Try.func37, Try.ntmps37
    go_wp2_with fail
    refine (implComplement_no n _ l _ (HI.out.alloc _) HG.out).mono ?_
    rintro e w1 ⟨v1, rfl, ho, hb⟩
    obtain ⟨a1, cap1, rfl, -, -⟩ := ho.ints.form
    have HO := Lib.hid ho.ints
    have HB := Lib.hid (hb.mono (B' := w.heap.size + 1) (by simp))
    clear ho hb
    obtain ⟨w2, hw2⟩ : ∃ w2, w2 = w1.alloc (.cells #[.int .i64 0, .slice a1 0 cap1] 28) := ⟨_, rfl⟩
    have HB2 := Lib.hid (show Below (w.heap.size + 1) (w.alloc (.cells #[.int .i64 n, .slice a l.length cap] 28)) w2 by rw [hw2]; exact HB.out.alloc (HA.out _ HB.out).2.2.2.2 _)
    have HO2 := Lib.hid (show Ints w2 (.slice a1 0 cap1) [] by rw [hw2]; exact HO.out.alloc _)
    have HDB := Lib.hid (HA.out _ HB2.out).2.2.2.1
    go_wp2_with fail
    rw [← hw2]
    clear hw2
    refine (implLarge 0 _ [] _ HO2.out).mono ?_
    rintro e w3 ⟨rfl, hb⟩
    have HB3 := Lib.hid (HDB.out.trans (hb.mono HDB.out.size))
    clear hb
    rw [big_zero, HE.out]
    go_wp2
    go_ret
    exact ⟨rfl, HB3.out⟩

end Go.Proofs.Ytgfndgjabhabjab
