/- impl.firstShortestWay. -/
import Derived.Test.YtgfndgjabhabjacDoorAp
import Derived.Test.YtgfndgjabhabjacDoorTz
import Derived.Test.YtgfndgjabhabjacDoorV5
import Derived.Test.YtgfndgjabhabjacDoorJ2
import Derived.Test.YtgfndgjabhabjacDoorL1
import Derived.Test.YtgfndgjabhabjacDoorQ
namespace Go.Proofs.YtgfndgjabhabjacDoor
set_option linter.unusedVariables false
set_option linter.unusedSimpArgs false
open Go.RowKit

theorem and_bit (S b : Nat) : S &&& 2 ^ b = if S.testBit b then 2 ^ b else 0 := by
  refine Nat.eq_of_testBit_eq fun i => ?_
  rw [Nat.testBit_and, Nat.testBit_two_pow]
  by_cases h : b = i
  · subst h
    cases hb : S.testBit b <;> simp
  · cases hb : S.testBit b <;> simp [h]

theorem around_zero (R : Nat → Nat) : aroundN R 0 = 0 := by
  have : memN 0 = [] := by simp [memN]
  unfold aroundN foldN
  rw [this]
  rfl

theorem it_zero (R : Nat → Nat) (S k : Nat) : itN R S 0 k = 0 := by
  induction k with
  | zero => rfl
  | succ k ih =>
    show stepN R S (itN R S 0 k) = 0
    rw [ih]
    unfold stepN
    rw [around_zero]
    exact Nat.zero_and S

theorem OwnI.one {B : Nat} {w : World} {x : Int} (hB : B ≤ w.heap.size) (h0 : -9223372036854775808 ≤ x) (h1 : x ≤ 9223372036854775807) : OwnI B (w.alloc (.cells #[.int .i64 x] 3)) (.slice (some ⟨w.heap.size, 0, none⟩) 1 1) [x] :=
  ⟨inI64_one h0 h1, by simp [iv], .inr ⟨w.heap.size, 1, #[.int .i64 x], rfl, hB, by show (w.heap.push _)[w.heap.size]? = _; rw [Array.getElem?_push_size], by simp, by unfold maxLen; omega, by simp, by simp [iv]⟩⟩

/-- The first shortest way from a to b within S. -/
def wayR (R : Nat → Nat) (S a b N : Nat) : Option (List Int) :=
  if S.testBit a = true ∧ S.testBit b = true then
    match farK R S b N a with
    | some k => some (wayL R S b k a)
    | none => none
  else none

/-- What is reached after 0 to i steps. -/
def itL (R : Nat → Nat) (S X i : Nat) : List Int := (List.range (i + 1)).map fun k => ((itN R S X k : Nat) : Int)

theorem itL_length (R : Nat → Nat) (S X i : Nat) : (itL R S X i).length = i + 1 := by simp [itL]

theorem itL_succ (R : Nat → Nat) (S X i : Nat) : itL R S X (i + 1) = itL R S X i ++ [((itN R S X (i + 1) : Nat) : Int)] := by
  unfold itL
  rw [List.range_succ (n := i + 1), List.map_append]
  rfl

theorem itL_nth (R : Nat → Nat) (S X i j : Nat) (h : j ≤ i) : nth (itL R S X i) j = ((itN R S X j : Nat) : Int) := by
  have : j < i + 1 := by omega
  simp [itL, nth, List.getD, this]

theorem and_sub_bit (S b : Nat) : Sub (S &&& 2 ^ b) S := fun i hi => by
  rw [Nat.testBit_and, Bool.and_eq_true] at hi; exact hi.1

/-- Found after i steps. -/
theorem way_found {R : Nat → Nat} {S a b N i : Nat} (h7 : N ≤ 7) (hS : S < 2 ^ N) (hp : i + popN (S &&& 2 ^ b) ≤ popN (itN R S (S &&& 2 ^ b) i)) (h1 : (itN R S (S &&& 2 ^ b) i).testBit a = true) (h0 : ∀ j, j < i → (itN R S (S &&& 2 ^ b) j).testBit a = false) :
    S.testBit b = true ∧ wayR R S a b N = some (wayL R S b i a) ∧ i < N := by
  have hsb : S.testBit b = true := by
    cases hb : S.testBit b with
    | true => rfl
    | false =>
      rw [and_bit, hb] at h1
      simp only [Bool.false_eq_true, if_false] at h1
      rw [it_zero] at h1
      simp at h1
  have hx : S &&& 2 ^ b = 2 ^ b := by rw [and_bit, hsb]; rfl
  rw [hx] at hp h1 h0
  have hb2 : Sub (2 ^ b) S := by rw [← hx]; exact and_sub_bit S b
  have hI := it_sub (R := R) hb2 i
  have hlt : itN R S (2 ^ b) i < 2 ^ N := Nat.lt_of_le_of_lt (sub_le hI) hS
  have hbN := bit_lt hS hsb
  have h128 : 2 ^ b < 128 := Nat.lt_of_le_of_lt (sub_le hb2) (Nat.lt_of_lt_of_le hS (two_le _ h7))
  have hpp : 0 < popN (2 ^ b) := (low_facts (2 ^ b) (Nat.pow_pos (by decide)) h128).2.2.1
  have hple := pop_le h7 hlt
  have hiN : i < N := by omega
  refine ⟨hsb, ?_, hiN⟩
  unfold wayR
  rw [if_pos ⟨hI a h1, hsb⟩, far_some.2 ⟨hiN, h1, h0⟩]

/-- No more is reached. -/
theorem way_lost {R : Nat → Nat} {S a b N i : Nat} (hf : stepN R S (itN R S (S &&& 2 ^ b) i) = itN R S (S &&& 2 ^ b) i) (hn : ∀ j, j ≤ i → (itN R S (S &&& 2 ^ b) j).testBit a = false) : wayR R S a b N = none := by
  unfold wayR
  by_cases h : S.testBit a = true ∧ S.testBit b = true
  · rw [if_pos h]
    have hx : S &&& 2 ^ b = 2 ^ b := by rw [and_bit, h.2]; rfl
    rw [hx] at hf hn
    rw [far_stop hf hn]
  · rw [if_neg h]

set_option maxHeartbeats 4000000 in
set_option maxRecDepth 100000 in
theorem fsw_is (n : Int) (v : Value) (lg : List Int) (hg : IsG n lg) (S a b : Nat) (hS : S < 2 ^ lg.length) (ha : a < lg.length) (hb : b < lg.length) (w : World) (h : Ints w v lg) (ht : TabT w) :
    Calls Tryd.prog 54 #[.agg #[.int .i64 n, v], .int .i64 S, .int .i64 a, .int .i64 b] w (GetsLB w.heap.size w (wayR (rowN lg) S a b lg.length)) := by
  obtain ⟨i0, hi, hz0, hz1, hz2⟩ := info_parts infoInt
  have hn7 := hg.2.1
  have hnl := hg.2.2.1
  have hm7 : lg.length ≤ 7 := by omega
  have h9 := h
  obtain ⟨bg, offg, cap, rfl, -, hmg, hbg, hcg⟩ := h.pos (by omega)
  have HI := Lib.hid h9
  have HG := Lib.hid hg
  have HCG := Lib.hid hcg
  have HT := Lib.hid ht
  have HA := argG' (T := 29) (n := n) h9
  have hS7 : S < 128 := Nat.lt_of_lt_of_le hS (two_le _ hm7)
  have HSY : Hid (∀ u v, u < lg.length → v < lg.length → (rowN lg u).testBit v = (rowN lg v).testBit u) := fun u v hu hv => hg.row_sym u v hu hv
  have HRL : Hid (∀ u, u < lg.length → rowN lg u < 2 ^ lg.length) := fun u hu => (hg.row_lt u hu).1
  have HRN : Hid (∀ u, u < lg.length → nth lg u = ((rowN lg u : Nat) : Int)) := fun u hu => (hg.row_lt u hu).2
  obtain ⟨R, hR⟩ : ∃ R, R = rowN lg := ⟨_, rfl⟩
  have HRR := Lib.hid hR
  rw [← hR] at HSY HRL HRN ⊢
  obtain ⟨RES, hRES⟩ : ∃ r, r = wayR R S a b lg.length := ⟨_, rfl⟩
  have HRES := Lib.hid hRES
  rw [← hRES]
  obtain ⟨s1, s2, s3, s4, s5⟩ := shl_one' b (by omega)
  obtain ⟨X0, hX0⟩ : ∃ X, X = S &&& 2 ^ b := ⟨_, rfl⟩
  have HX0 := Lib.hid hX0
  have hp128 : 2 ^ b < 128 := by
    have := Nat.pow_lt_pow_right (a := 2) (by decide) (show b < 7 by omega)
    exact this
  obtain ⟨P, hP⟩ : ∃ P : Int, P = 2 ^ b := ⟨_, rfl⟩
  have hPn : P = ((2 ^ b : Nat) : Int) := by rw [hP]; push_cast; rfl
  have f0 : bits .and .i64 (S : Int) P = (X0 : Int) := by rw [hPn, (bits_nat S (2 ^ b) hS7 hp128).1, ← hX0]
  have f1 : (2 : Int) ^ b = P := hP.symm
  rw [← hP] at s1 s2 s3 s4 s5
  have hXS : Sub X0 S := by rw [hX0]; exact and_sub_bit S b
  have HXS := Lib.hid hXS
  have HSS := Lib.hid hS
  have HIT : Hid (∀ i, Sub (itN R S X0 i) S ∧ itN R S X0 i < 2 ^ lg.length ∧ itN R S X0 i < 128) := fun i => by
    have h1 := it_sub (R := R) hXS i
    have h2 := sub_le h1
    exact ⟨h1, Nat.lt_of_le_of_lt h2 hS, Nat.lt_of_le_of_lt h2 hS7⟩
  have hX7 : X0 < 128 := (HIT.out 0).2.2
  have hO0 := OwnI.one (B := w.heap.size + 1) (w := w.alloc (.cells #[.int .i64 n, .slice (some ⟨bg, offg, none⟩) lg.length cap] 29)) (x := (X0 : Int)) (by simp) (by omega) (by omega)
  have HO0 := Lib.hid hO0
  unfold maxLen at hmg
  clear h h9 hg hcg ht hR hRES hX0 hP hPn hXS hS hO0
  go_enter Tryd.func54, Tryd.ntmps54
  go_wp2
  clear f0 s1 s2 s3 s4 s5
  go_loopw [10, 11] (fun s x wr => ∃ i : Nat, x = .int .i64 (itN R S X0 i : Nat) ∧ Hid (OwnI (w.heap.size + 1) wr s (itL R S X0 i)) ∧ Hid (i + popN X0 ≤ popN (itN R S X0 i)) ∧ Hid (∀ j, j < i → (itN R S X0 j).testBit a = false) ∧ Below (w.heap.size + 1) (w.alloc (.cells #[.int .i64 n, .slice (some ⟨bg, offg, none⟩) lg.length cap] 29)) wr) (fun _ x _ => 128 - (intOf x).toNat)
  case atStart => exact ⟨0, rfl, (by have h := HO0.out; simp only [World.size_alloc] at h; exact h), by show 0 + popN X0 ≤ popN X0; omega, fun j hj => absurd hj (by omega), (Below.refl _ _).alloc (by simp) _⟩
  case round =>
    clear HO0
    obtain ⟨i, rfl, HO, HP, HJ, hbel⟩ := hrel
    have HBL := Lib.hid hbel
    have hzr : w.heap.size + 1 ≤ wr.heap.size := by have := hbel.size; simpa using this
    obtain ⟨hY1, hY2, hY7⟩ := HIT.out i
    have hip : i ≤ 7 := by have h1 := pop_le (n := 7) (by omega) hY7; have h2 := HP.out; omega
    obtain ⟨Y, hY⟩ : ∃ Y, Y = itN R S X0 i := ⟨_, rfl⟩
    rw [← hY] at hY1 hY2 hY7 ⊢
    have HY := Lib.hid hY
    obtain ⟨t, ht⟩ : ∃ t, t = bitAt (Y : Int) a := ⟨_, rfl⟩
    have e1 : bits .and .i64 ((Y : Int) / 2 ^ a) 1 = t := by rw [ht]; exact and_one_bit _ a
    have z1 : t = 0 ∨ t = 1 := by rw [ht]; exact bitAt_two _ _
    have HTB : Hid (t = 1 ↔ Y.testBit a = true) := by rw [ht]; exact bitAt_nat Y a
    have HYS := Lib.hid hY1
    have HYL := Lib.hid hY2
    clear hY ht hbel hY1 hY2
    obtain ⟨c0, c1, cI, cB, cz⟩ := HA.out _ HBL.out
    have HCI := Lib.hid cI
    have HCB := Lib.hid cB
    clear cI cB
    rcases z1 with rfl | rfl
    · have HN0 : Hid (∀ j, j ≤ i → (itN R S X0 j).testBit a = false) := fun j hj => by
        rcases Nat.lt_or_ge j i with h | h
        · exact HJ.out j h
        · obtain rfl : j = i := by omega
          rw [← HY.out]
          cases hb : Y.testBit a with
          | false => rfl
          | true => exact absurd (HTB.out.2 hb) (by decide)
      have HAR := Lib.hid (show aroundR n lg (Y : Int) = ((aroundN R Y : Nat) : Int) by
        unfold aroundR
        rw [if_pos ⟨HG.out, by omega, by rw [show n.toNat = lg.length by omega]; exact_mod_cast HYL.out⟩, Int.toNat_natCast, HRR.out])
      have hA7 : aroundN R Y < 128 := by rw [HRR.out]; exact Nat.lt_of_lt_of_le (around_lt HG.out HYL.out) (two_le _ hm7)
      obtain ⟨A, hA⟩ : ∃ A, A = aroundN R Y := ⟨_, rfl⟩
      rw [← hA] at HAR hA7
      obtain ⟨Z, hZ⟩ : ∃ Z, Z = A &&& S := ⟨_, rfl⟩
      have e2 : bits .and .i64 (A : Int) (S : Int) = (Z : Int) := by rw [(bits_nat A S hA7 hS7).1, hZ]
      have HZ := Lib.hid (show itN R S X0 (i + 1) = Z by
        show stepN R S (itN R S X0 i) = Z
        rw [← HY.out, hZ, hA]; rfl)
      clear hA hZ
      go_wp2_with fail
      refine (implAround n _ lg (Y : Int) _ HCI.out).mono ?_
      rintro e w1 ⟨rfl, hb⟩
      rw [HAR.out]
      have HB1 := Lib.hid (HBL.out.trans (hb.mono hzr))
      have HO1 := Lib.hid (HO.out.on hb)
      clear hb c0 c1
      by_cases hZY : Z = Y
      · have q1 : ((Z : Int) == (Y : Int)) = true := by rw [beq_iff_eq, hZY]
        have HN := Lib.hid (show RES = none by
          rw [HRES.out]
          refine way_lost (i := i) ?_ ?_
          · rw [← HX0.out]
            show itN R S X0 (i + 1) = _
            rw [HZ.out, hZY, HY.out]
          · rw [← HX0.out]; exact HN0.out)
        have HW := Lib.hid (HA.out _ HB1.out).2.2.2.1
        clear hZY
        go_wp2
        go_ret2
        exact ⟨_, by rw [HN.out]; rfl, by rw [HN.out]; exact OwnI.nil0 _ _, HW.out⟩
      · have q1 : ((Z : Int) == (Y : Int)) = false := by rw [beq_eq_false_iff_ne]; exact fun h => hZY (by exact_mod_cast h)
        have hZ7 : Z < 128 := by rw [← HZ.out]; exact (HIT.out (i + 1)).2.2
        have HPP : Hid (i + 1 + popN X0 ≤ popN (itN R S X0 (i + 1))) := by
          have h1 := pop_lt (X := Y) (Y := Z) hY7 hZ7 (by rw [HY.out, ← HZ.out]; exact it_ext HXS.out i) (fun h => hZY h.symm)
          have h2 := HP.out
          rw [← HY.out] at h2
          show i + 1 + popN X0 ≤ popN (itN R S X0 (i + 1))
          rw [HZ.out]
          omega
        have hYZ : Y < Z := by
          have h1 : Y ≤ Z := sub_le (by rw [HY.out, ← HZ.out]; exact it_ext HXS.out i)
          omega
        have hzw : w.heap.size + 1 ≤ w1.heap.size := by have := HB1.out.size; simpa using this
        have hll : (itL R S X0 i).length + 1 ≤ 1000000000 := by rw [itL_length]; omega
        clear hZY
        go_wp2_with (at_builtin; refine wpList_append_int rfl (.tmp 36) (.tmp 38) 22 rfl (w.heap.size + 1) i0 Tryd.underlying22 hi hz0 hz1 hz2 _ (itL R S X0 i) rfl HO1.out (Z : Int) (by omega) (by omega) rfl hll hzw ?_)
        intro v2 w2 ho2 hg2 hne2
        have HO2 := Lib.hid (show OwnI (w.heap.size + 1) w2 v2 (itL R S X0 (i + 1)) by rw [itL_succ, HZ.out]; exact ho2)
        have HB2 := Lib.hid ((HB1.out.alloc hzw (.cells #[.int .i64 (Z : Int)] 3)).grown hg2 (by simp; omega) (fun q hq => (HO1.out.lt q hq).1))
        clear ho2 hg2 hne2
        go_wp2
        go_roundw
        case rel => exact ⟨i + 1, by rw [HZ.out], HO2.out, HPP.out, fun j hj => HN0.out j (by omega), HB2.out⟩
        case measure => simp [intOf]; omega
    · obtain ⟨wo, rfl⟩ : ∃ wo, wo = wr := ⟨_, rfl⟩
      have hFD := way_found (R := R) (S := S) (a := a) (b := b) (i := i) hm7 HSS.out (by rw [← HX0.out]; exact HP.out) (by rw [← HX0.out, ← HY.out]; exact HTB.out.1 rfl) (by rw [← HX0.out]; exact HJ.out)
      have hiN := hFD.2.2
      have hx2 : X0 = 2 ^ b := by rw [HX0.out, and_bit, hFD.1]; rfl
      have hb2 : Sub (2 ^ b) S := by rw [← hx2]; exact HXS.out
      have HB2 := Lib.hid hb2
      have HRS := Lib.hid (show RES = some (wayL R S b i a) by rw [HRES.out]; exact hFD.2.1)
      have HYA := Lib.hid (show (itN R S X0 i).testBit a = true by rw [← HY.out]; exact HTB.out.1 (by first | rfl | trivial))
      subst hx2
      clear hFD hb2 hX7
      obtain ⟨bn, offn, capn, hvn, _, hmn, hbn, hcn⟩ := HO.out.ints.pos (by rw [itL_length]; omega)
      rw [itL_length] at hvn
      have HCN : Hid (∀ j, j ≤ i → wo.cell? ⟨bn, offn + j, none⟩ = some (.int .i64 (itN R S (2 ^ b) j : Nat))) := fun j hj => by
        rw [hcn j (by rw [itL_length]; omega), itL_nth _ _ _ _ _ hj]
      subst hvn
      have HOW := Lib.hid (OwnI.one (B := wo.heap.size) (w := wo) (x := (a : Int)) (Nat.le_refl _) (by omega) (by omega))
      have g1 : IntKind.i64.wrap (((i + 1 : Nat) : Int) - 2) = (i : Int) - 1 := (IntWalk.i64_in _ (by omega)).trans (by omega)
      have g2 : IntKind.i64.wrap ((i : Int) + 1 - 2) = (i : Int) - 1 := (IntWalk.i64_in _ (by omega)).trans (by omega)
      unfold maxLen at hmn
      clear hcn
      go_wp2
      clear c0 c1 g1 g2
      go_loopw [2, 13, 14] (fun c s x wr => ∃ (j c' : Nat) (L : List Int), c = .int .i64 c' ∧ x = .int .i64 ((j : Int) - 1) ∧ L.length + j = i + 1 ∧ c' < lg.length ∧ Hid (OwnI wo.heap.size wr s L) ∧ Hid (wayL R S b i a = L ++ (wayL R S b j c').tail) ∧ Hid ((itN R S (2 ^ b) j).testBit c' = true ∧ ∀ k, k < j → (itN R S (2 ^ b) k).testBit c' = false) ∧ Below wo.heap.size wo wr) (fun _ _ x _ => (intOf x + 1).toNat)
      case atStart => exact ⟨i, a, [(a : Int)], rfl, rfl, by simp; omega, ha, HOW.out, by rw [wayL_tail R S b i a]; rfl, ⟨HYA.out, HJ.out⟩, (Below.refl _ _).alloc (Nat.le_refl _) _⟩
      case round =>
        clear HOW
        obtain ⟨j, c', L, rfl, rfl, hLj, hcl, HOW, HWY, HBT, hbel2⟩ := hrel
        have HB4 := Lib.hid hbel2
        cases j with
        | zero =>
          have d0 : decide ((((0 : Nat) : Int) - 1) ≥ 0) = false := by decide
          have d1 : decide ((0 : Int) ≤ ((0 : Nat) : Int) - 1) = false := by decide
          have HN := Lib.hid (show RES = some L by
            rw [HRS.out, HWY.out]
            show some (L ++ []) = some L
            rw [List.append_nil])
          have HW := Lib.hid (HCB.out.trans (hbel2.mono HCB.out.size))
          have HZO := Lib.hid (HOW.out.mono HCB.out.size)
          clear hbel2
          go_wp2
          go_ret2
          exact ⟨_, by rw [HN.out]; rfl, by rw [HN.out]; exact HZO.out, HW.out⟩
        | succ j =>
          have hz : (((j + 1 : Nat) : Int) - 1) = (j : Int) := by omega
          rw [hz] at *
          have d0 : decide ((j : Int) ≥ 0) = true := decide_eq_true (by omega)
          have d1 : decide ((0 : Int) ≤ (j : Int)) = true := decide_eq_true (by omega)
          obtain ⟨hv1, hv2⟩ := HBT.out
          obtain ⟨n1, n2, n3, n4, n5, n6⟩ := way_next (R := R) (S := S) (b := b) (N := lg.length) (i := j) (c := c') hm7 HSS.out HB2.out HRL.out HSY.out hv1 (hv2 j (by omega))
          have HN6 := Lib.hid n6
          have hij := (HIT.out j).2.2
          have hr7 : R c' < 128 := Nat.lt_of_lt_of_le (HRL.out c' hcl) (two_le _ hm7)
          obtain ⟨I, hI⟩ : ∃ I, I = itN R S (2 ^ b) j := ⟨_, rfl⟩
          obtain ⟨Rc, hRc⟩ : ∃ r, r = R c' := ⟨_, rfl⟩
          obtain ⟨Q, hQ⟩ : ∃ Q, Q = Rc &&& I := ⟨_, rfl⟩
          obtain ⟨D, hD⟩ : ∃ D, D = lowN Q := ⟨_, rfl⟩
          rw [← hI, ← hRc, ← hQ] at n1 n2 n3 n4 n5
          rw [← hD] at n3 n4 n5
          rw [← hI] at hij
          rw [← hRc] at hr7
          have e4 : bits .and .i64 (Rc : Int) (I : Int) = (Q : Int) := by rw [(bits_nat Rc I hr7 hij).1, hQ]
          have HI9 := Lib.hid hI
          have HWN := Lib.hid (show wayL R S b (j + 1) c' = (c' : Int) :: wayL R S b j D by
            rw [hD, hQ, hRc, hI]; rfl)
          have HDN : Hid (I.testBit D = true ∧ ∀ k, k < j → (itN R S (2 ^ b) k).testBit D = false) := ⟨n3, HN6.out D (by rw [← hRc]; exact n4) (by rw [← hI]; exact n3)⟩
          have HLE : Hid (∀ W', TabT W' → Calls Tryd.prog 50 #[.int .i64 Q] W' fun e w' => e = .returned (.int .i64 D) ∧ Below W'.heap.size W' w') := fun W' hW' => by rw [hD]; exact least_is Q n1 n2 W' hW'
          have HXB : Hid (∀ X : Since wr, Below wo.heap.size wo X.val) := fun X => HB4.out.trans (X.prop.mono HB4.out.size)
          have HTX : Hid (∀ X : Since wr, TabT X.val) := fun X => HT.out.on (HCB.out.trans ((HXB.out X).mono HCB.out.size))
          have hx0 : ∀ X : Since wr, X.val.cell? ⟨w.heap.size, 1, none⟩ = some (.slice (some ⟨bg, offg, none⟩) lg.length cap) := fun X => (HA.out _ (HBL.out.trans ((HXB.out X).mono hzr))).2.1
          have hx1 : ∀ X : Since wr, X.val.cell? ⟨bg, offg + c', none⟩ = some (.int .i64 Rc) := fun X => by
            rw [(HCB.out.trans ((HXB.out X).mono HCB.out.size)).cell (p := ⟨bg, offg + c', none⟩) hbg, HCG.out c' hcl, HRN.out c' hcl, hRc]
          have hx2 : ∀ X : Since wr, X.val.cell? ⟨bn, offn + j, none⟩ = some (.int .i64 I) := fun X => by
            rw [(HXB.out X).cell (p := ⟨bn, offn + j, none⟩) hbn, HCN.out j (by omega), hI]
          have hji : j < i + 1 := by omega
          clear hbel2 hv1 hv2 n3 n4 n6 hI hRc hQ hD hz
          go_wp2
          refine wp_region_since (by kernel_rfl) (by kernel_rfl) ?_
          repeat (go_big_quiet_step (with_reducible exact since_call (HLE.out _ (HTX.out _))))
          refine wpQuiet_nil ?_
          intro X
          have HB5 := Lib.hid (HB4.out.trans (X.prop.mono HB4.out.size))
          have HO5 := Lib.hid (HOW.out.on (X.prop))
          obtain ⟨wx, hwx⟩ : ∃ wx, wx = X.val := ⟨_, rfl⟩
          rw [← hwx] at HB5 HO5 ⊢
          clear hwx hx0 hx1 hx2
          have hL7 : L.length + 1 ≤ 1000000000 := by omega
          have hzx : wo.heap.size ≤ wx.heap.size := HB5.out.size
          go_wp2_with (at_builtin; refine wpList_append_int rfl (.tmp 61) (.tmp 63) 22 rfl wo.heap.size i0 Tryd.underlying22 hi hz0 hz1 hz2 _ L rfl HO5.out (D : Int) (by omega) (by omega) rfl hL7 hzx ?_)
          intro v6 w6 ho6 hg6 hne6
          have HO6 := Lib.hid ho6
          have HB6 := Lib.hid ((HB5.out.alloc hzx (.cells #[.int .i64 (D : Int)] 3)).grown hg6 (by simp; omega) (fun q hq => (HO5.out.lt q hq).1))
          have HW6 := Lib.hid (show wayL R S b i a = (L ++ [(D : Int)]) ++ (wayL R S b j D).tail by
            rw [HWY.out, HWN.out, List.append_assoc]
            congr 1
            exact wayL_tail R S b j D)
          clear ho6 hg6 hne6
          have g3 : IntKind.i64.wrap ((j : Int) - 1) = (j : Int) - 1 := IntWalk.i64_in _ (by omega)
          go_wp2
          go_roundw
          case rel => exact ⟨j, D, L ++ [(D : Int)], rfl, rfl, by simp; omega, n5, HO6.out, HW6.out, by rw [← HI9.out]; exact HDN.out, HB6.out⟩
          case measure => first | (simp [intOf]; done) | (simp [intOf]; omega)

end Go.Proofs.YtgfndgjabhabjacDoor
