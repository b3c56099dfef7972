/- Walks over PartsOf. -/
import Derived.Test.YtbgkceekkinngacV5
import Derived.Test.YtbgkceekkinngacV6
import Derived.StillTailTactics
namespace Go.Proofs.Ytbgkceekkinngac
set_option linter.unusedVariables false
set_option linter.unusedSimpArgs false
open Go.RowKit

theorem isS_nat {n : Int} {l : List Int} (hg : IsG n l) {A : Nat} (hA : A < 2 ^ l.length) : IsS n l (A : Int) := by
  refine ⟨hg, by omega, ?_⟩
  have hn : n.toNat = l.length := by have := hg.2.2.1; omega
  rw [hn]
  have h3 : ((2 ^ l.length : Nat) : Int) = (2 : Int) ^ l.length := by push_cast; rfl
  omega

theorem aroundR_nat {n : Int} {l : List Int} (hg : IsG n l) {A : Nat} (hA : A < 2 ^ l.length) : aroundR n l (A : Int) = ((aroundN (rowN l) A : Nat) : Int) := by
  unfold aroundR
  rw [if_pos (isS_nat hg hA)]
  rfl

theorem step_lt {n : Int} {l : List Int} (hg : IsG n l) {A S : Nat} (hA : A < 2 ^ l.length) : stepN (rowN l) S A < 2 ^ l.length := Nat.lt_of_le_of_lt Nat.and_le_left (around_lt hg hA)

theorem it_lt {n : Int} {l : List Int} (hg : IsG n l) {A S : Nat} (hA : A < 2 ^ l.length) (k : Nat) : itN (rowN l) S A k < 2 ^ l.length := by
  cases k with
  | zero => exact hA
  | succ k => exact step_lt hg (it_lt hg hA k)

theorem it_grow {R : Nat → Nat} {S X n : Nat} (hS : S < 2 ^ n) (hn : n ≤ 7) (hX : Sub X S) (h0 : 0 < X) (k : Nat) : (∃ j, j ≤ k ∧ stepN R S (itN R S X j) = itN R S X j) ∨ k + 1 ≤ popN (itN R S X k) := by
  have h7 : S < 128 := Nat.lt_of_lt_of_le hS (two_le n hn)
  have hlt : ∀ k, itN R S X k < 128 := fun k => Nat.lt_of_le_of_lt (sub_le (it_sub hX k)) h7
  induction k with
  | zero => exact .inr (low_facts X h0 (hlt 0)).2.2.1
  | succ k ih =>
    rcases ih with ⟨j, hj, he⟩ | hp
    · exact .inl ⟨j, by omega, he⟩
    · by_cases e : itN R S X k = itN R S X (k + 1)
      · exact .inl ⟨k, by omega, e.symm⟩
      · have := pop_lt (hlt k) (hlt (k + 1)) (it_ext hX k) e
        exact .inr (by omega)

theorem it_stable {R : Nat → Nat} {S X n : Nat} (hS : S < 2 ^ n) (hn : n ≤ 7) (hX : Sub X S) (h0 : 0 < X) : stepN R S (itN R S X n) = itN R S X n := by
  rcases it_grow (R := R) hS hn hX h0 n with ⟨j, hj, he⟩ | hp
  · have := it_fix he (n - j)
    rw [show j + (n - j) = n by omega] at this
    rw [this, he]
  · have := pop_le hn (Nat.lt_of_le_of_lt (sub_le (it_sub (R := R) hX n)) hS)
    omega

theorem low_sub {L : Nat} (h0 : 0 < L) (h7 : L < 128) : Sub (2 ^ lowN L) L := and_sub (low_facts L h0 h7).2.2.2.2.1

/-- One part more. -/
theorem parts_step {n : Int} {l : List Int} (hg : IsG n l) {S L f : Nat} (hS : S < 2 ^ l.length) (hl : l.length ≤ 7) (h0 : 0 < L) (hf : L ≤ f) (hL : Sub L S) (hc : stepN (rowN l) S L = L) :
    ∃ P D, P = itN (rowN l) S (2 ^ lowN L) l.length ∧ D = L - P ∧ P = itN (rowN l) L (2 ^ lowN L) l.length ∧ Sub P L ∧ 0 < P ∧ D < L ∧ Sub D S ∧ stepN (rowN l) S D = D ∧ popN D < popN L ∧ partsN (rowN l) S l.length f L = P :: partsN (rowN l) S l.length (f - 1) D ∧ D ≤ f - 1 ∧ (D : Int) = L - P := by
  have hS7 : S < 128 := Nat.lt_of_lt_of_le hS (two_le _ hl)
  have hL7 : L < 128 := Nat.lt_of_le_of_lt (sub_le hL) hS7
  have h1 := low_sub h0 hL7
  have h2 : Sub (2 ^ lowN L) S := fun i hi => hL i (h1 i hi)
  have h3 := it_local (R := rowN l) h1 hL hc l.length
  have h4 : Sub (itN (rowN l) S (2 ^ lowN L) l.length) L := by rw [← h3]; exact it_sub h1 _
  have h5 : 0 < itN (rowN l) S (2 ^ lowN L) l.length := Nat.lt_of_lt_of_le (Nat.pow_pos (by decide)) (sub_le (it_from h2 l.length))
  have h6 := sub_le h4
  have h7 := it_stable (R := rowN l) hS hl h2 (Nat.pow_pos (by decide))
  have h8 : Sub (L - itN (rowN l) S (2 ^ lowN L) l.length) L := fun i hi => ((minus_bit hL7 h4 i).1 hi).1
  refine ⟨_, _, rfl, rfl, h3.symm, h4, h5, by omega, fun i hi => hL i (h8 i hi), ?_, ?_, ?_, by omega, by omega⟩
  · exact closed_minus hS7 hL h4 hc h7 fun i j hi hj => hg.row_sym i j (bit_lt hS hi) (bit_lt hS hj)
  · exact pop_lt (by omega) hL7 h8 (by omega)
  · obtain ⟨g, rfl⟩ : ∃ g, f = g + 1 := ⟨f - 1, by omega⟩
    show (if L = 0 then [] else _) = _
    rw [if_neg (by omega)]
    rfl

theorem parts_done (R : Nat → Nat) (S n f : Nat) : partsN R S n f 0 = [] := by
  cases f <;> simp [partsN]

theorem listU_nat (L : Nat) : listU (L : Int) 7 = (memN L).map fun v : Nat => (v : Int) := by rw [← memU_nat]; rfl

set_option maxHeartbeats 1000000 in
set_option maxRecDepth 100000 in
theorem grow_is (n : Int) (v : Value) (l : List Int) (A0 S : Nat) (w : World) (h : Ints w v l) (hg : IsG n l) (hA : A0 < 2 ^ l.length) (hS : S < 2 ^ l.length) :
    Calls Try.prog 125 #[.agg #[.int .i64 n, v], .int .i64 A0, .int .i64 S] w (SaysN ((itN (rowN l) S A0 l.length : Nat) : Int) w) := by
  obtain ⟨a, cap, rfl, -, -⟩ := h.form
  have HA := argG' (T := 27) (n := n) h
  have HG := Lib.hid hg
  have hl7 : l.length ≤ 7 := by have := hg.2.1; have := hg.2.2.1; omega
  have hnl := hg.2.2.1
  have hle : (l.length : Int) ≤ n := by omega
  have hS7 : S < 128 := Nat.lt_of_lt_of_le hS (two_le _ hl7)
  have HS2 := Lib.hid hS
  have HA2 := Lib.hid hA
  clear h hg hS hA
  go_enter Try.func125, Try.ntmps125
  go_wp2
  go_loopw [7, 8] (fun o i wr => ∃ (j A : Nat), j ≤ l.length ∧ i = .int .i64 j ∧ o = .int .i64 A ∧ Hid (A = itN (rowN l) S A0 j) ∧ Below (w.heap.size + 1) (w.alloc (.cells #[.int .i64 n, .slice a l.length cap] 27)) wr) (fun _ i _ => l.length - (intOf i).toNat)
  case atStart => exact ⟨0, A0, by omega, rfl, rfl, rfl, Below.refl _ _⟩
  case round =>
    obtain ⟨j, A, hj, rfl, rfl, HF, hbel⟩ := hrel
    obtain ⟨c0, c1, cI, cB, hz⟩ := HA.out _ hbel
    have HBL := Lib.hid hbel
    have HCB := Lib.hid cB
    have HCI := Lib.hid cI
    clear hbel cB cI
    by_cases hlt : j < l.length
    · have hjn : (j : Int) < n := by omega
      have hA2 : A < 2 ^ l.length := by rw [HF.out]; exact it_lt HG.out HA2.out j
      obtain ⟨B, hB⟩ : ∃ B, B = aroundN (rowN l) A := ⟨_, rfl⟩
      have hB7 : B < 128 := by rw [hB]; exact Nat.lt_of_lt_of_le (around_lt HG.out hA2) (two_le _ hl7)
      have hR := aroundR_nat HG.out hA2
      rw [← hB] at hR
      have o1 := (bits_nat B S hB7 hS7).1
      obtain ⟨C, hC⟩ : ∃ C, C = B &&& S := ⟨_, rfl⟩
      rw [← hC] at o1
      have HC := Lib.hid (show C = stepN (rowN l) S A by rw [hC, hB]; rfl)
      have HR := Lib.hid hR
      clear hA2 hB hR hC
      go_wp2_with fail
      refine (specAround n _ l A _ HCI.out).mono ?_
      rintro e w1 ⟨rfl, hb⟩
      rw [HR.out]
      have HBL2 := Lib.hid (HBL.out.trans (hb.mono hz))
      clear hb c0 c1 hz
      obtain ⟨c0, c1, -, -, hz⟩ := HA.out _ HBL2.out
      go_wp2
      go_roundw
      case rel => exact ⟨j + 1, C, by omega, by go_num, rfl, by rw [HC.out, HF.out]; rfl, HBL2.out⟩
      case measure => simp [intOf]; omega
    · obtain rfl : j = l.length := by omega
      go_wp2
      go_ret
      exact ⟨by rw [← HF.out]; rfl, HCB.out⟩

set_option maxHeartbeats 1000000 in
set_option maxRecDepth 100000 in
theorem partFrom_is (n : Int) (v : Value) (l : List Int) (L A0 : Nat) (w : World) (h : Ints w v l) (hg : IsG n l) (hL : L < 2 ^ l.length) (hs : Sub A0 L) (h0 : 0 < A0) :
    Calls Try.prog 126 #[.agg #[.int .i64 n, v], .int .i64 L, .int .i64 A0] w (SaysN ((itN (rowN l) L A0 l.length : Nat) : Int) w) := by
  obtain ⟨a, cap, rfl, -, -⟩ := h.form
  have HA := argG' (T := 27) (n := n) h
  have HG := Lib.hid hg
  have hl7 : l.length ≤ 7 := by have := hg.2.1; have := hg.2.2.1; omega
  have hL7 : L < 128 := Nat.lt_of_lt_of_le hL (two_le _ hl7)
  have HL2 := Lib.hid hL
  have HSub := Lib.hid hs
  have hA0 : A0 < 128 := Nat.lt_of_le_of_lt (sub_le hs) hL7
  have HP0 := Lib.hid (low_facts A0 h0 hA0).2.2.1
  have HA2 := Lib.hid (show A0 < 2 ^ l.length from Nat.lt_of_le_of_lt (sub_le hs) hL)
  clear h hg hL hs
  go_enter Try.func126, Try.ntmps126
  go_wp2
  go_loopw [7] (fun o wr => ∃ (k A : Nat), o = .int .i64 A ∧ Hid (A = itN (rowN l) L A0 k ∧ k + 1 ≤ popN A) ∧ Below (w.heap.size + 1) (w.alloc (.cells #[.int .i64 n, .slice a l.length cap] 27)) wr) (fun o _ => 7 - popN (intOf o).toNat)
  case atStart => exact ⟨0, A0, rfl, ⟨rfl, HP0.out⟩, Below.refl _ _⟩
  case round =>
    obtain ⟨k, A, rfl, HF, hbel⟩ := hrel
    obtain ⟨c0, c1, cI, cB, hz⟩ := HA.out _ hbel
    have HBL := Lib.hid hbel
    have HCI := Lib.hid cI
    clear hbel cB cI
    have hA2 : A < 2 ^ l.length := by rw [HF.out.1]; exact it_lt HG.out HA2.out k
    obtain ⟨B, hB⟩ : ∃ B, B = aroundN (rowN l) A := ⟨_, rfl⟩
    have hB7 : B < 128 := by rw [hB]; exact Nat.lt_of_lt_of_le (around_lt HG.out hA2) (two_le _ hl7)
    have hR := aroundR_nat HG.out hA2
    rw [← hB] at hR
    have o1 := (bits_nat B L hB7 hL7).1
    obtain ⟨C, hC⟩ : ∃ C, C = B &&& L := ⟨_, rfl⟩
    rw [← hC] at o1
    have hCs : C = stepN (rowN l) L A := by rw [hC, hB]; rfl
    have HC := Lib.hid hCs
    have HR := Lib.hid hR
    have hAl : A < 2 ^ l.length := hA2
    have HAL := Lib.hid hAl
    clear hB hR hC hA2 hAl hCs
    go_wp2_with fail
    refine (implAround n _ l A _ HCI.out).mono ?_
    rintro e w1 ⟨rfl, hb⟩
    rw [HR.out]
    have HBL2 := Lib.hid (HBL.out.trans (hb.mono hz))
    clear hb c0 c1 hz
    obtain ⟨c0, c1, -, cB, hz⟩ := HA.out _ HBL2.out
    have HCB := Lib.hid cB
    clear cB
    by_cases hCA : C = A
    · have hC1 : itN (rowN l) L A0 (k + 1) = itN (rowN l) L A0 k := by
        show stepN (rowN l) L (itN (rowN l) L A0 k) = _
        rw [← HF.out.1, ← HC.out, hCA]
      have hk : k + 1 ≤ l.length := Nat.le_trans HF.out.2 (pop_le hl7 HAL.out)
      have h2 := it_fix hC1 (l.length - k)
      rw [show k + (l.length - k) = l.length by omega] at h2
      have HE := Lib.hid (show itN (rowN l) L A0 l.length = A by rw [h2, ← HF.out.1])
      subst hCA
      clear hC1 h2
      go_wp2
      go_ret
      exact ⟨by rw [HE.out]; rfl, HCB.out⟩
    · have q1 : ((C : Int) == (A : Int)) = false := by simp; omega
      have q2 : ((C : Int) != (A : Int)) = true := by simp; omega
      have q3 : (decide ((C : Int) = (A : Int))) = false := by simp; omega
      have hsub : Sub A C := by
        rw [HC.out, HF.out.1]
        exact step_ext (it_sub HSub.out k)
      have hA7 : A < 128 := Nat.lt_of_lt_of_le HAL.out (two_le _ hl7)
      have hC2 : C < 2 ^ l.length := by rw [HC.out]; exact step_lt HG.out HAL.out
      have hC7 : C < 128 := Nat.lt_of_lt_of_le hC2 (two_le _ hl7)
      have hp := pop_lt hA7 hC7 hsub (fun e => hCA e.symm)
      have hp7 := pop_le (Nat.le_refl 7) (show C < 2 ^ 7 from hC7)
      have HP := Lib.hid hp
      have HP7 := Lib.hid hp7
      have HNE := Lib.hid hCA
      clear hsub hC2 hp hp7 hCA
      go_wp2
      go_roundw
      case rel => exact ⟨k + 1, C, rfl, ⟨by rw [HC.out, HF.out.1]; rfl, by have := HP.out; have := HF.out.2; omega⟩, HBL2.out⟩
      case measure =>
        have := HP.out
        have := HP7.out
        simp [intOf]; omega

set_option maxHeartbeats 1000000 in
set_option maxRecDepth 100000 in
theorem specParts_no (n : Int) (v : Value) (l : List Int) (x : Int) (w : World) (h : Ints w v l) (hno : ¬ IsS n l x) :
    Calls Try.prog 98 #[.agg #[.int .i64 n, v], .int .i64 x] w (GetsI w.heap.size w []) := by
  obtain ⟨a, cap, rfl, -, -⟩ := h.form
  have HA := argG' (T := 27) (n := n) h
  have HN := Lib.hid hno
  clear h hno
  go_enter Try.func98, Try.ntmps98
  go_wp2
  go_loopw [5, 6] (fun o i wr => i = .int .i64 x ∧ o = .slice (some ⟨w.heap.size + 1, 0, none⟩) 0 0 ∧ OwnI (w.heap.size + 1) wr (.slice (some ⟨w.heap.size + 1, 0, none⟩) 0 0) [] ∧ Below (w.heap.size + 1) (w.alloc (.cells #[.int .i64 n, .slice a l.length cap] 27)) wr) (fun _ _ _ => 0)
  case atStart =>
    refine ⟨rfl, by simp, ⟨inI64_nil, ?_⟩, (Below.refl _ _).alloc (by simp) _⟩
    have := World.ownsRow_lit (w.alloc (.cells #[.int .i64 n, .slice a l.length cap] 27)) #[] 0 (e := 3) (base := w.heap.size + 1) (by simp) (by simp [maxLen]) (size := 1) rfl
    simpa [iv] using this
  case round =>
    obtain ⟨rfl, rfl, ho, hbel⟩ := hrel
    obtain ⟨c0, c1, cI, cB, hz⟩ := HA.out _ hbel
    have HO := Lib.hid ho
    have HBL := Lib.hid hbel
    have HCI := Lib.hid cI
    have HCB := Lib.hid cB
    clear ho hbel cI cB
    by_cases h0 : x > 0
    · have d0 : decide (x > 0) = true := by simp [h0]
      have d1 : decide (0 < x) = true := by simp; exact h0
      go_wp2_with fail
      refine (specIsSet n _ l x _ HCI.out).mono ?_
      rintro e w1 ⟨r, rfl, hr, hb⟩
      obtain rfl : r = false := by
        cases r with
        | false => rfl
        | true => exact absurd (hr.1 rfl) HN.out
      have HO2 := Lib.hid (HO.out.on hb)
      have HCB2 := Lib.hid (HCB.out.trans (hb.mono HCB.out.size))
      clear hb hr
      go_wp2
      go_ret
      exact ⟨_, rfl, HO2.out.mono (by omega), HCB2.out⟩
    · have d0 : decide (x > 0) = false := by simp; omega
      have d1 : decide (0 < x) = false := by simp; omega
      go_wp2
      go_ret
      exact ⟨_, rfl, HO.out.mono (by omega), HCB.out⟩

set_option maxHeartbeats 2000000 in
set_option maxRecDepth 100000 in
theorem specParts_yes (n : Int) (v : Value) (l : List Int) (x : Int) (w : World) (h : Ints w v l) (hs : IsS n l x) :
    Calls Try.prog 98 #[.agg #[.int .i64 n, v], .int .i64 x] w (GetsI w.heap.size w (partsR n l x)) := by
  obtain ⟨a, cap, rfl, -, -⟩ := h.form
  obtain ⟨i0, hi, hi0, hi1, hi2⟩ := info_parts infoInt
  have HA := argG' (T := 27) (n := n) h
  have HG := Lib.hid hs
  obtain ⟨R, hR⟩ : ∃ R, R = partsR n l x := ⟨_, rfl⟩
  rw [← hR]
  have hR2 : partsR n l x = (partsN (rowN l) x.toNat l.length x.toNat x.toNat).map fun p : Nat => (p : Int) := by unfold partsR; rw [if_pos hs]
  rw [hR2] at hR
  obtain ⟨S, hSx⟩ : ∃ S, S = x.toNat := ⟨_, rfl⟩
  have hxn := hs.nat
  rw [← hSx] at hxn hR
  obtain ⟨rfl, hS2, hl7⟩ := hxn
  have hS7 : S < 128 := Nat.lt_of_lt_of_le hS2 (two_le _ hl7)
  have HS2 := Lib.hid hS2
  have HR := Lib.hid hR
  have HC0 := Lib.hid (show stepN (rowN l) S S = S from eq_of_bits fun i => ⟨fun hi => step_sub _ _ _ i hi, fun hi => step_ext (fun _ h => h) i hi⟩)
  have HP7 := Lib.hid (pop_le (Nat.le_refl 7) (show S < 2 ^ 7 from hS7))
  clear h hs hR hR2 hSx hS2
  go_enter Try.func98, Try.ntmps98
  go_wp2
  go_loopw [5, 6] (fun o i wr => ∃ (L f : Nat) (pre : List Int), i = .int .i64 L ∧ L < 128 ∧ OwnI (w.heap.size + 1) wr o pre ∧ Hid (R = pre ++ (partsN (rowN l) S l.length f L).map (fun p : Nat => (p : Int)) ∧ L ≤ f ∧ Sub L S ∧ stepN (rowN l) S L = L ∧ pre.length + popN L ≤ 7) ∧ Below (w.heap.size + 1) (w.alloc (.cells #[.int .i64 n, .slice a l.length cap] 27)) wr) (fun _ i _ => (intOf i).toNat)
  case atStart =>
    refine ⟨S, S, [], rfl, hS7, ⟨inI64_nil, ?_⟩, ⟨HR.out, Nat.le_refl _, fun _ h => h, HC0.out, by have := HP7.out; simpa using this⟩, (Below.refl _ _).alloc (by simp) _⟩
    have := World.ownsRow_lit (w.alloc (.cells #[.int .i64 n, .slice a l.length cap] 27)) #[] 0 (e := 3) (base := w.heap.size + 1) (by simp) (by simp [maxLen]) (size := 1) rfl
    simpa [iv] using this
  case round =>
    obtain ⟨L, f, pre, rfl, hL7, ho, HF, hbel⟩ := hrel
    obtain ⟨c0, c1, cI, cB, hz⟩ := HA.out _ hbel
    have HO := Lib.hid ho
    have HBL := Lib.hid hbel
    have HCI := Lib.hid cI
    have HCB := Lib.hid cB
    clear ho hbel cI cB
    by_cases h0 : 0 < L
    · have d1 : decide ((0 : Int) < (L : Int)) = true := by simp [h0]
      have d0 : decide ((L : Int) > 0) = true := by simp [h0]
      obtain ⟨P, D, hP, hD, hPL, hsP, hP0, hDL, hsD, hcD, hpop, hst, hDf, hDi⟩ := parts_step HG.out.1 HS2.out hl7 h0 HF.out.2.1 HF.out.2.2.1 HF.out.2.2.2.1
      have hP7 : P < 128 := Nat.lt_of_le_of_lt (sub_le hsP) hL7
      obtain ⟨k, hk⟩ : ∃ k, k = lowN L := ⟨_, rfl⟩
      have hlow := low_facts L h0 hL7
      rw [← hk] at hlow hP
      obtain ⟨-, hk7, hlen, -, -, hk128⟩ := hlow
      have HPW := Lib.hid (show 2 ^ k < 2 ^ l.length from Nat.lt_of_le_of_lt (by have := low_sub h0 hL7; rw [← hk] at this; exact Nat.le_trans (sub_le this) (sub_le HF.out.2.2.1)) HS2.out)
      obtain ⟨K, hK⟩ : ∃ K, K = 2 ^ k := ⟨_, rfl⟩
      have eK : (2 : Int) ^ k = (K : Int) := by rw [hK]; push_cast; rfl
      rw [← hK] at hk128 HPW hP
      have hK1 : 1 ≤ K := by rw [hK]; exact Nat.pow_pos (by decide)
      have g1 : IntKind.i64.wrap (1 * (K : Int)) = K := IntWalk.i64_in _ (by omega) |>.trans (by omega)
      have g2 : IntKind.i64.wrap (K : Int) = K := IntWalk.i64_in _ (by omega)
      have hlr : listR (L : Int) = (memN L).map fun v : Nat => (v : Int) := by unfold listR; rw [if_pos (by omega)]; exact listU_nat L
      have hln : 0 < (listR (L : Int)).length := by rw [hlr]; simpa using hlen
      have hn0 : nth (listR (L : Int)) 0 = (k : Int) := by
        rw [hlr, hk]
        unfold nth lowN
        cases hm : memN L with
        | nil => rw [hm] at hlen; simp at hlen
        | cons y t => simp
      have HH := Lib.hid (And.intro hP (And.intro hsD (And.intro hcD (And.intro hpop (And.intro hst (And.intro hDf hDi))))))
      have HLR := Lib.hid (And.intro hln hn0)
      have hpl : pre.length ≤ 7 := by have := HF.out.2.2.2.2; omega
      clear hP hD hPL hsP hsD hcD hpop hst hDf hDi hk hlen hK hlr hln hn0
      go_wp2_with fail
      refine (specIsSet n _ l S _ HCI.out).mono ?_
      rintro e w1 ⟨r, rfl, hr, hb⟩
      obtain rfl : r = true := hr.2 HG.out
      have HO1 := Lib.hid (HO.out.on hb)
      have HBL1 := Lib.hid (HBL.out.trans (hb.mono hz))
      clear hb hr c0 c1 hz
      go_wp2_with fail
      refine (specListOf L _).mono ?_
      rintro e w2 ⟨vl, rfl, hol, hb⟩
      have HO2 := Lib.hid (HO1.out.on hb)
      have HBL2 := Lib.hid (HBL1.out.trans (hb.mono (HA.out _ HBL1.out).2.2.2.2))
      obtain ⟨b, off, cap', rfl, _, hmx, hbl, hcell⟩ := hol.ints.pos HLR.out.1
      have e0 := hcell 0 HLR.out.1
      rw [HLR.out.2, Nat.add_zero] at e0
      have hll := HLR.out.1
      unfold maxLen at hmx
      clear hb hol hcell
      obtain ⟨c0, c1, cI, -, hz⟩ := HA.out _ HBL2.out
      have HCI2 := Lib.hid cI
      clear cI
      go_wp2
      go_still_tail 4, (by kernel_rfl)
      change wpList _ _ _ _ _ w2.drew
      go_wp2_with fail
      refine (grow_is n _ l K S _ (HCI2.out.on (Below.refl _ _).drew) HG.out.1 HPW.out HS2.out).mono ?_
      rintro e w3 ⟨rfl, hb⟩
      rw [← HH.out.1]
      have HO3 := Lib.hid ((HO2.out.on (Below.refl _ _).drew).on hb)
      have HBL3 := Lib.hid ((HBL2.out.drew).trans (hb.mono (by show w.heap.size + 1 ≤ w2.heap.size; omega)))
      clear hb c0 c1 hz e0
      obtain ⟨-, -, -, -, hz⟩ := HA.out _ HBL3.out
      go_wp2_with (at_builtin; refine wpList_append_int rfl (.tmp 27) (.tmp 29) 22 rfl (w.heap.size + 1) i0 Try.underlying22 hi hi0 hi1 hi2 _ _ rfl HO3.out (P : Int) (by omega) (by omega) rfl (by omega) hz ?_)
      intro v' w4 ho4 hg4 hv4
      have HO4 := Lib.hid ho4
      have HB4 := Lib.hid ((HBL3.out.alloc hz (.cells #[.int .i64 (P : Int)] 3)).grown hg4 (by simp; omega) (fun k hk => (HO3.out.lt k hk).1))
      clear ho4 hg4
      go_wp2
      go_roundw
      case rel =>
        obtain ⟨-, q1, q2, q3, q4, q5, q6⟩ := HH.out
        obtain ⟨r1, r2, r3, r4, r5⟩ := HF.out
        refine ⟨D, f - 1, pre ++ [(P : Int)], congrArg (Value.int .i64) q6.symm, by omega, HO4.out, ⟨?_, q5, q1, q2, ?_⟩, HB4.out⟩
        · rw [r1, q4]; simp
        · rw [List.length_append]; simp; omega
      case measure => simp [intOf]; omega
    · obtain rfl : L = 0 := by omega
      have HE := Lib.hid (show R = pre by have := HF.out.1; rw [parts_done] at this; simpa using this)
      go_wp2
      go_ret
      exact ⟨_, rfl, by rw [HE.out]; exact HO.out.mono (by omega), HCB.out⟩

theorem specParts (n : Int) (v : Value) (l : List Int) (x : Int) (w : World) (h : Ints w v l) :
    Calls Try.prog 98 #[.agg #[.int .i64 n, v], .int .i64 x] w (GetsI w.heap.size w (partsR n l x)) := by
  by_cases hs : IsS n l x
  · exact specParts_yes n v l x w h hs
  · rw [show partsR n l x = [] by unfold partsR; rw [if_neg hs]]
    exact specParts_no n v l x w h hs

end Go.Proofs.Ytbgkceekkinngac
