/- Walks over the program's PartsOf. -/
import Derived.Test.YtbgkceekkinngacV7
namespace Go.Proofs.Ytbgkceekkinngac
set_option linter.unusedVariables false
set_option linter.unusedSimpArgs false
open Go.RowKit

set_option maxHeartbeats 2000000 in
set_option maxRecDepth 100000 in
theorem implParts (n : Int) (v : Value) (l : List Int) (x : Int) (w : World) (h : Ints w v l) :
    Calls Try.prog 100 #[.agg #[.int .i64 n, v], .int .i64 x] w (GetsI w.heap.size w (partsR n l x)) := by
  obtain ⟨a, cap, rfl, -, -⟩ := h.form
  obtain ⟨i0, hi, hi0, hi1, hi2⟩ := info_parts infoInt
  have HA := argG' (T := 27) (n := n) h
  have HI := Lib.hid h
  clear h
  go_enter Try.func100, Try.ntmps100
  go_wp2_with fail
  refine (implIsSet n _ l x _ (HI.out.alloc _)).mono ?_
  rintro e w1 ⟨r, rfl, hr, hb⟩
  have HB := Lib.hid (hb.mono (B' := w.heap.size + 1) (by simp))
  clear hb
  obtain ⟨c0, c1, -, -, hz⟩ := HA.out _ HB.out
  cases r with
  | false =>
    have HN := Lib.hid (show partsR n l x = [] by unfold partsR; rw [if_neg (by simpa using hr)])
    clear hr
    go_wp2
    go_ret
    exact ⟨_, rfl, by rw [HN.out]; exact OwnI.nil0 _ _, (HA.out _ HB.out).2.2.2.1⟩
  | true =>
    have hs := hr.1 rfl
    have HG := Lib.hid hs
    obtain ⟨R, hR⟩ : ∃ R, R = partsR n l x := ⟨_, rfl⟩
    have hR2 : partsR n l x = (partsN (rowN l) x.toNat l.length x.toNat x.toNat).map fun p : Nat => (p : Int) := by unfold partsR; rw [if_pos hs]
    rw [hR2] at hR
    obtain ⟨S, hSx⟩ : ∃ S, S = x.toNat := ⟨_, rfl⟩
    have hxn := hs.nat
    rw [← hSx] at hxn hR hR2
    obtain ⟨rfl, hS2, hl7⟩ := hxn
    have hS7 : S < 128 := Nat.lt_of_lt_of_le hS2 (two_le _ hl7)
    have HS2 := Lib.hid hS2
    have HR := Lib.hid hR
    have HRR := Lib.hid (hR2.trans hR.symm)
    have HC0 := Lib.hid (show stepN (rowN l) S S = S from eq_of_bits fun i => ⟨fun hi => step_sub _ _ _ i hi, fun hi => step_ext (fun _ h => h) i hi⟩)
    have HP7 := Lib.hid (pop_le (Nat.le_refl 7) (show S < 2 ^ 7 from hS7))
    clear hr hs hR hR2 hSx hS2 c0 c1 hz
    go_wp2
    go_loopw [5, 6] (fun o i wr => ∃ (L f : Nat) (pre : List Int), i = .int .i64 L ∧ L < 128 ∧ OwnI (w.heap.size + 1) wr o pre ∧ Hid (R = pre ++ (partsN (rowN l) S l.length f L).map (fun p : Nat => (p : Int)) ∧ L ≤ f ∧ Sub L S ∧ stepN (rowN l) S L = L ∧ pre.length + popN L ≤ 7) ∧ Below (w.heap.size + 1) (w.alloc (.cells #[.int .i64 n, .slice a l.length cap] 27)) wr) (fun _ i _ => (intOf i).toNat)
    case atStart => exact ⟨S, S, [], rfl, hS7, OwnI.nil0 _ _, ⟨HR.out, Nat.le_refl _, fun _ h => h, HC0.out, by have := HP7.out; simpa using this⟩, HB.out⟩
    case round =>
      obtain ⟨L, f, pre, rfl, hL7, ho, HF, hbel⟩ := hrel
      obtain ⟨c0, c1, cI, cB, hz⟩ := HA.out _ hbel
      have HO := Lib.hid ho
      have HBL := Lib.hid hbel
      have HCI := Lib.hid cI
      have HCB := Lib.hid cB
      clear ho hbel cI cB
      by_cases h0 : 0 < L
      · have d1 : ((L : Int) != 0) = true := by simp; omega
        obtain ⟨P, D, hP, hD, hPL, hsP, hP0, hDL, hsD, hcD, hpop, hst, hDf, hDi⟩ := parts_step HG.out.1 HS2.out hl7 h0 HF.out.2.1 HF.out.2.2.1 HF.out.2.2.2.1
        have hP7 : P < 128 := Nat.lt_of_le_of_lt (sub_le hsP) hL7
        have han := andNot_nat hL7 hsP
        rw [← hD] at han
        have hlow := low_facts L h0 hL7
        have hsub := low_sub h0 hL7
        obtain ⟨K, hK⟩ : ∃ K, K = 2 ^ lowN L := ⟨_, rfl⟩
        rw [← hK] at hlow hsub hPL
        obtain ⟨-, -, -, hneg, -, hk128⟩ := hlow
        have hK0 : 0 < K := by rw [hK]; exact Nat.pow_pos (by decide)
        have HL2 := Lib.hid (show L < 2 ^ l.length from Nat.lt_of_le_of_lt (sub_le HF.out.2.2.1) HS2.out)
        have HSub := Lib.hid hsub
        have HPL := Lib.hid hPL
        have HH := Lib.hid (And.intro hsD (And.intro hcD (And.intro hpop (And.intro hst (And.intro hDf hDi)))))
        have hpl : pre.length ≤ 7 := by have := HF.out.2.2.2.2; omega
        clear hP hD hPL hsP hsD hcD hpop hst hDf hDi hK hsub
        go_wp2_with fail
        refine (partFrom_is n _ l L K _ HCI.out HG.out.1 HL2.out HSub.out hK0).mono ?_
        rintro e w2 ⟨rfl, hb⟩
        rw [← HPL.out]
        have HO2 := Lib.hid (HO.out.on hb)
        have HBL2 := Lib.hid (HBL.out.trans (hb.mono hz))
        clear hb c0 c1 hz
        obtain ⟨-, -, -, -, hz⟩ := HA.out _ HBL2.out
        go_wp2_with (at_builtin; refine wpList_append_int rfl (.tmp 22) (.tmp 24) 22 rfl (w.heap.size + 1) i0 Try.underlying22 hi hi0 hi1 hi2 _ _ rfl HO2.out (P : Int) (by omega) (by omega) rfl (by omega) hz ?_)
        intro v' w4 ho4 hg4 hv4
        have HO4 := Lib.hid ho4
        have HB4 := Lib.hid ((HBL2.out.alloc hz (.cells #[.int .i64 (P : Int)] 3)).grown hg4 (by simp; omega) (fun k hk => (HO2.out.lt k hk).1))
        clear ho4 hg4
        go_wp2
        go_roundw
        case rel =>
          obtain ⟨q1, q2, q3, q4, q5, q6⟩ := HH.out
          obtain ⟨r1, r2, r3, r4, r5⟩ := HF.out
          refine ⟨D, f - 1, pre ++ [(P : Int)], rfl, by omega, HO4.out, ⟨?_, q5, q1, q2, ?_⟩, HB4.out⟩
          · rw [r1, q4]; simp
          · rw [List.length_append]; simp; omega
        case measure => simp [intOf]; omega
      · obtain rfl : L = 0 := by omega
        have HE := Lib.hid (show R = pre by have := HF.out.1; rw [parts_done] at this; simpa using this)
        go_wp2
        go_ret
        exact ⟨_, rfl, by rw [HRR.out, HE.out]; exact HO.out.mono (by omega), HCB.out⟩

theorem parts_length (R : Nat → Nat) (S n f L : Nat) : (partsN R S n f L).length ≤ f := by
  induction f generalizing L with
  | zero => simp [partsN]
  | succ f ih =>
    show (if L = 0 then [] else _ :: partsN R S n f _ : List Nat).length ≤ f + 1
    split
    · simp
    · simpa using ih _

theorem partsR_length (n : Int) (l : List Int) (x : Int) : (partsR n l x).length ≤ 128 := by
  unfold partsR
  split
  · rename_i hs
    have h1 := parts_length (rowN l) x.toNat l.length x.toNat x.toNat
    have h2 := hs.nat
    have h3 := two_le _ h2.2.2
    rw [List.length_map]
    omega
  · simp

end Go.Proofs.Ytbgkceekkinngac
