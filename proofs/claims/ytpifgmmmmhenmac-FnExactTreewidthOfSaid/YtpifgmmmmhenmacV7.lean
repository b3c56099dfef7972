/- Walks over PartsOf. -/
import Derived.Test.YtpifgmmmmhenmacV5
import Derived.Test.YtpifgmmmmhenmacV6
import Derived.StillTailTactics
namespace Go.Proofs.Ytpifgmmmmhenmac
set_option linter.unusedVariables false
set_option linter.unusedSimpArgs false
open Go.RowKit

theorem isS_nat {n : Int} {l : List Int} (hg : IsG n l) {A : Nat} (hA : A < 2 ^ l.length) : IsS n l (A : Int) := by
  refine ⟨hg, by omega, ?_⟩
  have hn : n.toNat = l.length := by have := hg.2.2.1; omega
  rw [hn]
  have h3 : ((2 ^ l.length : Nat) : Int) = (2 : Int) ^ l.length := by push_cast; rfl
  omega

theorem aroundR_nat {n : Int} {l : List Int} (hg : IsG n l) {A : Nat} (hA : A < 2 ^ l.length) : aroundR n l (A : Int) = ((aroundN (rowN l) A : Nat) : Int) := by
  unfold aroundR
  rw [if_pos (isS_nat hg hA)]
  rfl

theorem step_lt {n : Int} {l : List Int} (hg : IsG n l) {A S : Nat} (hA : A < 2 ^ l.length) : stepN (rowN l) S A < 2 ^ l.length := Nat.lt_of_le_of_lt Nat.and_le_left (around_lt hg hA)

theorem it_lt {n : Int} {l : List Int} (hg : IsG n l) {A S : Nat} (hA : A < 2 ^ l.length) (k : Nat) : itN (rowN l) S A k < 2 ^ l.length := by
  cases k with
  | zero => exact hA
  | succ k => exact step_lt hg (it_lt hg hA k)

theorem it_grow {R : Nat → Nat} {S X n : Nat} (hS : S < 2 ^ n) (hn : n ≤ 7) (hX : Sub X S) (h0 : 0 < X) (k : Nat) : (∃ j, j ≤ k ∧ stepN R S (itN R S X j) = itN R S X j) ∨ k + 1 ≤ popN (itN R S X k) := by
  have h7 : S < 128 := Nat.lt_of_lt_of_le hS (two_le n hn)
  have hlt : ∀ k, itN R S X k < 128 := fun k => Nat.lt_of_le_of_lt (sub_le (it_sub hX k)) h7
  induction k with
  | zero => exact .inr (low_facts X h0 (hlt 0)).2.2.1
  | succ k ih =>
    rcases ih with ⟨j, hj, he⟩ | hp
    · exact .inl ⟨j, by omega, he⟩
    · by_cases e : itN R S X k = itN R S X (k + 1)
      · exact .inl ⟨k, by omega, e.symm⟩
      · have := pop_lt (hlt k) (hlt (k + 1)) (it_ext hX k) e
        exact .inr (by omega)

theorem it_stable {R : Nat → Nat} {S X n : Nat} (hS : S < 2 ^ n) (hn : n ≤ 7) (hX : Sub X S) (h0 : 0 < X) : stepN R S (itN R S X n) = itN R S X n := by
  rcases it_grow (R := R) hS hn hX h0 n with ⟨j, hj, he⟩ | hp
  · have := it_fix he (n - j)
    rw [show j + (n - j) = n by omega] at this
    rw [this, he]
  · have := pop_le hn (Nat.lt_of_le_of_lt (sub_le (it_sub (R := R) hX n)) hS)
    omega

theorem low_sub {L : Nat} (h0 : 0 < L) (h7 : L < 128) : Sub (2 ^ lowN L) L := and_sub (low_facts L h0 h7).2.2.2.2.1

/-- One part more. -/
theorem parts_step {n : Int} {l : List Int} (hg : IsG n l) {S L f : Nat} (hS : S < 2 ^ l.length) (hl : l.length ≤ 7) (h0 : 0 < L) (hf : L ≤ f) (hL : Sub L S) (hc : stepN (rowN l) S L = L) :
    ∃ P D, P = itN (rowN l) S (2 ^ lowN L) l.length ∧ D = L - P ∧ P = itN (rowN l) L (2 ^ lowN L) l.length ∧ Sub P L ∧ 0 < P ∧ D < L ∧ Sub D S ∧ stepN (rowN l) S D = D ∧ popN D < popN L ∧ partsN (rowN l) S l.length f L = P :: partsN (rowN l) S l.length (f - 1) D ∧ D ≤ f - 1 ∧ (D : Int) = L - P := by
  have hS7 : S < 128 := Nat.lt_of_lt_of_le hS (two_le _ hl)
  have hL7 : L < 128 := Nat.lt_of_le_of_lt (sub_le hL) hS7
  have h1 := low_sub h0 hL7
  have h2 : Sub (2 ^ lowN L) S := fun i hi => hL i (h1 i hi)
  have h3 := it_local (R := rowN l) h1 hL hc l.length
  have h4 : Sub (itN (rowN l) S (2 ^ lowN L) l.length) L := by rw [← h3]; exact it_sub h1 _
  have h5 : 0 < itN (rowN l) S (2 ^ lowN L) l.length := Nat.lt_of_lt_of_le (Nat.pow_pos (by decide)) (sub_le (it_from h2 l.length))
  have h6 := sub_le h4
  have h7 := it_stable (R := rowN l) hS hl h2 (Nat.pow_pos (by decide))
  have h8 : Sub (L - itN (rowN l) S (2 ^ lowN L) l.length) L := fun i hi => ((minus_bit hL7 h4 i).1 hi).1
  refine ⟨_, _, rfl, rfl, h3.symm, h4, h5, by omega, fun i hi => hL i (h8 i hi), ?_, ?_, ?_, by omega, by omega⟩
  · exact closed_minus hS7 hL h4 hc h7 fun i j hi hj => hg.row_sym i j (bit_lt hS hi) (bit_lt hS hj)
  · exact pop_lt (by omega) hL7 h8 (by omega)
  · obtain ⟨g, rfl⟩ : ∃ g, f = g + 1 := ⟨f - 1, by omega⟩
    show (if L = 0 then [] else _) = _
    rw [if_neg (by omega)]
    rfl

theorem parts_done (R : Nat → Nat) (S n f : Nat) : partsN R S n f 0 = [] := by
  cases f <;> simp [partsN]

theorem listU_nat (L : Nat) : listU (L : Int) 7 = (memN L).map fun v : Nat => (v : Int) := by rw [← memU_nat]; rfl

set_option maxHeartbeats 1000000 in
set_option maxRecDepth 100000 in
theorem grow_is (n : Int) (v : Value) (l : List Int) (A0 S : Nat) (w : World) (h : Ints w v l) (hg : IsG n l) (hA : A0 < 2 ^ l.length) (hS : S < 2 ^ l.length) :
    Calls Try.prog 45 #[.agg #[.int .i64 n, v], .int .i64 A0, .int .i64 S] w (SaysN ((itN (rowN l) S A0 l.length : Nat) : Int) w) := by
  obtain ⟨a, cap, rfl, -, -⟩ := h.form
  have HA := argG' (T := 37) (n := n) h
  have HG := Lib.hid hg
  have hl7 : l.length ≤ 7 := by have := hg.2.1; have := hg.2.2.1; omega
  have hnl := hg.2.2.1
  have hle : (l.length : Int) ≤ n := by omega
  have hS7 : S < 128 := Nat.lt_of_lt_of_le hS (two_le _ hl7)
  have HS2 := Lib.hid hS
  have HA2 := Lib.hid hA
  clear h hg hS hA
  go_enter Try.func45, Try.ntmps45
  go_wp2
  go_loopw [7, 8] (fun o i wr => ∃ (j A : Nat), j ≤ l.length ∧ i = .int .i64 j ∧ o = .int .i64 A ∧ Hid (A = itN (rowN l) S A0 j) ∧ Below (w.heap.size + 1) (w.alloc (.cells #[.int .i64 n, .slice a l.length cap] 37)) wr) (fun _ i _ => l.length - (intOf i).toNat)
  case atStart => exact ⟨0, A0, by omega, rfl, rfl, rfl, Below.refl _ _⟩
  case round =>
    obtain ⟨j, A, hj, rfl, rfl, HF, hbel⟩ := hrel
    obtain ⟨c0, c1, cI, cB, hz⟩ := HA.out _ hbel
    have HBL := Lib.hid hbel
    have HCB := Lib.hid cB
    have HCI := Lib.hid cI
    clear hbel cB cI
    by_cases hlt : j < l.length
    · have hjn : (j : Int) < n := by omega
      have hA2 : A < 2 ^ l.length := by rw [HF.out]; exact it_lt HG.out HA2.out j
      obtain ⟨B, hB⟩ : ∃ B, B = aroundN (rowN l) A := ⟨_, rfl⟩
      have hB7 : B < 128 := by rw [hB]; exact Nat.lt_of_lt_of_le (around_lt HG.out hA2) (two_le _ hl7)
      have hR := aroundR_nat HG.out hA2
      rw [← hB] at hR
      have o1 := (bits_nat B S hB7 hS7).1
      obtain ⟨C, hC⟩ : ∃ C, C = B &&& S := ⟨_, rfl⟩
      rw [← hC] at o1
      have HC := Lib.hid (show C = stepN (rowN l) S A by rw [hC, hB]; rfl)
      have HR := Lib.hid hR
      clear hA2 hB hR hC
      go_wp2_with fail
      refine (specAround n _ l A _ HCI.out).mono ?_
      rintro e w1 ⟨rfl, hb⟩
      rw [HR.out]
      have HBL2 := Lib.hid (HBL.out.trans (hb.mono hz))
      clear hb c0 c1 hz
      obtain ⟨c0, c1, -, -, hz⟩ := HA.out _ HBL2.out
      go_wp2
      go_roundw
      case rel => exact ⟨j + 1, C, by omega, by go_num, rfl, by rw [HC.out, HF.out]; rfl, HBL2.out⟩
      case measure => simp [intOf]; omega
    · obtain rfl : j = l.length := by omega
      go_wp2
      go_ret
      exact ⟨by rw [← HF.out]; rfl, HCB.out⟩

set_option maxHeartbeats 1000000 in
set_option maxRecDepth 100000 in
theorem partFrom_is (n : Int) (v : Value) (l : List Int) (L A0 : Nat) (w : World) (h : Ints w v l) (hg : IsG n l) (hL : L < 2 ^ l.length) (hs : Sub A0 L) (h0 : 0 < A0) :
    Calls Try.prog 66 #[.agg #[.int .i64 n, v], .int .i64 L, .int .i64 A0] w (SaysN ((itN (rowN l) L A0 l.length : Nat) : Int) w) := by
  obtain ⟨a, cap, rfl, -, -⟩ := h.form
  have HA := argG' (T := 37) (n := n) h
  have HG := Lib.hid hg
  have hl7 : l.length ≤ 7 := by have := hg.2.1; have := hg.2.2.1; omega
  have hL7 : L < 128 := Nat.lt_of_lt_of_le hL (two_le _ hl7)
  have HL2 := Lib.hid hL
  have HSub := Lib.hid hs
  have hA0 : A0 < 128 := Nat.lt_of_le_of_lt (sub_le hs) hL7
  have HP0 := Lib.hid (low_facts A0 h0 hA0).2.2.1
  have HA2 := Lib.hid (show A0 < 2 ^ l.length from Nat.lt_of_le_of_lt (sub_le hs) hL)
  clear h hg hL hs
  go_enter Try.func66, Try.ntmps66
  go_wp2
  go_loopw [7] (fun o wr => ∃ (k A : Nat), o = .int .i64 A ∧ Hid (A = itN (rowN l) L A0 k ∧ k + 1 ≤ popN A) ∧ Below (w.heap.size + 1) (w.alloc (.cells #[.int .i64 n, .slice a l.length cap] 37)) wr) (fun o _ => 7 - popN (intOf o).toNat)
  case atStart => exact ⟨0, A0, rfl, ⟨rfl, HP0.out⟩, Below.refl _ _⟩
  case round =>
    obtain ⟨k, A, rfl, HF, hbel⟩ := hrel
    obtain ⟨c0, c1, cI, cB, hz⟩ := HA.out _ hbel
    have HBL := Lib.hid hbel
    have HCI := Lib.hid cI
    clear hbel cB cI
    have hA2 : A < 2 ^ l.length := by rw [HF.out.1]; exact it_lt HG.out HA2.out k
    obtain ⟨B, hB⟩ : ∃ B, B = aroundN (rowN l) A := ⟨_, rfl⟩
    have hB7 : B < 128 := by rw [hB]; exact Nat.lt_of_lt_of_le (around_lt HG.out hA2) (two_le _ hl7)
    have hR := aroundR_nat HG.out hA2
    rw [← hB] at hR
    have o1 := (bits_nat B L hB7 hL7).1
    obtain ⟨C, hC⟩ : ∃ C, C = B &&& L := ⟨_, rfl⟩
    rw [← hC] at o1
    have hCs : C = stepN (rowN l) L A := by rw [hC, hB]; rfl
    have HC := Lib.hid hCs
    have HR := Lib.hid hR
    have hAl : A < 2 ^ l.length := hA2
    have HAL := Lib.hid hAl
    clear hB hR hC hA2 hAl hCs
    go_wp2_with fail
    refine (implAround n _ l A _ HCI.out).mono ?_
    rintro e w1 ⟨rfl, hb⟩
    rw [HR.out]
    have HBL2 := Lib.hid (HBL.out.trans (hb.mono hz))
    clear hb c0 c1 hz
    obtain ⟨c0, c1, -, cB, hz⟩ := HA.out _ HBL2.out
    have HCB := Lib.hid cB
    clear cB
    by_cases hCA : C = A
    · have hC1 : itN (rowN l) L A0 (k + 1) = itN (rowN l) L A0 k := by
        show stepN (rowN l) L (itN (rowN l) L A0 k) = _
        rw [← HF.out.1, ← HC.out, hCA]
      have hk : k + 1 ≤ l.length := Nat.le_trans HF.out.2 (pop_le hl7 HAL.out)
      have h2 := it_fix hC1 (l.length - k)
      rw [show k + (l.length - k) = l.length by omega] at h2
      have HE := Lib.hid (show itN (rowN l) L A0 l.length = A by rw [h2, ← HF.out.1])
      subst hCA
      clear hC1 h2
      go_wp2
      go_ret
      exact ⟨by rw [HE.out]; rfl, HCB.out⟩
    · have q1 : ((C : Int) == (A : Int)) = false := by simp; omega
      have q2 : ((C : Int) != (A : Int)) = true := by simp; omega
      have q3 : (decide ((C : Int) = (A : Int))) = false := by simp; omega
      have hsub : Sub A C := by
        rw [HC.out, HF.out.1]
        exact step_ext (it_sub HSub.out k)
      have hA7 : A < 128 := Nat.lt_of_lt_of_le HAL.out (two_le _ hl7)
      have hC2 : C < 2 ^ l.length := by rw [HC.out]; exact step_lt HG.out HAL.out
      have hC7 : C < 128 := Nat.lt_of_lt_of_le hC2 (two_le _ hl7)
      have hp := pop_lt hA7 hC7 hsub (fun e => hCA e.symm)
      have hp7 := pop_le (Nat.le_refl 7) (show C < 2 ^ 7 from hC7)
      have HP := Lib.hid hp
      have HP7 := Lib.hid hp7
      have HNE := Lib.hid hCA
      clear hsub hC2 hp hp7 hCA
      go_wp2
      go_roundw
      case rel => exact ⟨k + 1, C, rfl, ⟨by rw [HC.out, HF.out.1]; rfl, by have := HP.out; have := HF.out.2; omega⟩, HBL2.out⟩
      case measure =>
        have := HP.out
        have := HP7.out
        simp [intOf]; omega

end Go.Proofs.Ytpifgmmmmhenmac
