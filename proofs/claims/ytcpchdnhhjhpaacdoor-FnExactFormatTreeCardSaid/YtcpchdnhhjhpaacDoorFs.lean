/- FormatSet. -/
import Derived.Test.YtcpchdnhhjhpaacDoorV6
import Derived.Test.YtcpchdnhhjhpaacDoorB
import Derived.Test.YtcpchdnhhjhpaacDoorH3
import Derived.Test.YtcpchdnhhjhpaacDoorFb
import Derived.Test.YtcpchdnhhjhpaacDoorFiWalks
namespace Go.Proofs.YtcpchdnhhjhpaacDoor
set_option linter.unusedVariables false
set_option linter.unusedSimpArgs false
open Go.RowKit

/-- The digits of the first k. -/
def digL (l : List Int) (k : Nat) : List UInt8 := (l.take k).flatMap Lib.itoa

theorem digL_succ (l : List Int) {k : Nat} (h : k < l.length) : digL l (k + 1) = digL l k ++ Lib.itoa (nth l k) := by
  unfold digL
  rw [List.take_succ_eq_append_getElem h, List.flatMap_append]
  simp [nth, List.getD, h]

theorem digL_len (l : List Int) (hl : inI64 l) : ∀ k, (digL l k).length ≤ 21 * k
  | 0 => by simp [digL]
  | k + 1 => by
    have ih := digL_len l hl k
    by_cases h : k < l.length
    · rw [digL_succ l h, List.length_append]
      have := Lib.itoa_length_le (nth l k) (nth_in hl k).1 (nth_in hl k).2
      omega
    · have : digL l (k + 1) = digL l k := by unfold digL; rw [List.take_of_length_le (by omega), List.take_of_length_le (by omega)]
      rw [this]; omega

theorem itoa_pos (n : Int) : 0 < (Lib.itoa n).length := by
  unfold Lib.itoa
  split
  · simp
  · rw [Lib.decDigits]; split <;> simp

def setT (x : Int) : List UInt8 := if x = 0 then [45] else digL (listR x) (listR x).length

theorem setT_zero : setT 0 = [45] := rfl

theorem listU_nat (X : Nat) : listU (X : Int) 7 = (memN X).map fun v : Nat => (v : Int) := by rw [← memU_nat]; rfl

theorem listR_zero : listR 0 = [] := by decide +kernel

theorem setT_len (x : Int) : (setT x).length ≤ 147 := by
  unfold setT
  split
  · simp
  · have h1 := digL_len (listR x) (by unfold listR; split <;> first | exact listU_in x 7 (by omega) | exact inI64_nil) (listR x).length
    have h2 := listR_length x
    omega

set_option maxHeartbeats 1000000 in
set_option maxRecDepth 100000 in
theorem implFSet (x : Int) (w : World) (htab : TabP w) :
    Calls Tryd.prog 10 #[.int .i64 x] w fun e w' => e = .returned (.string ⟨(setT x).toArray⟩) ∧ Below w.heap.size w w' := by
  have HT := Lib.hid htab
  clear htab
  by_cases hx : x = 0
  · subst hx
    go_enter Tryd.func10, Tryd.ntmps10
    go_wp2
    go_ret
    exact ⟨rfl, Below.refl _ _⟩
  · have d0 : (x == 0) = false := by rw [beq_eq_false_iff_ne]; exact hx
    have HS := Lib.hid (show setT x = digL (listR x) (listR x).length by unfold setT; rw [if_neg hx])
    have hl7 := listR_length x
    obtain ⟨l, hl⟩ : ∃ l, l = listR x := ⟨_, rfl⟩
    have HL := Lib.hid hl
    rw [← hl] at hl7
    clear hx hl
    go_enter Tryd.func10, Tryd.ntmps10
    go_wp2_with fail
    refine (implListOf x _).mono ?_
    rintro e w1 ⟨v, rfl, ho, hb⟩
    rw [← HL.out] at ho
    have hown := ho.ints
    obtain ⟨a, cap, rfl, -, -⟩ := hown.form
    have HO := Lib.hid (ho.mono (B' := w.heap.size + 1) (by simp))
    have hsz1 : w.heap.size < w1.heap.size := by have := hb.size; simp at this; omega
    have hnew : w1.heap[w.heap.size]? = some (.cells #[.pointer none, .slice none 0 0] 61 (0, 0)) := (hb.block w.heap.size (by simp)).trans (heap_alloc_new w _)
    obtain ⟨lo, hlo⟩ : ∃ lo, lo = w1.heap.size := ⟨_, rfl⟩
    have HLT := Lib.hid (show ∀ k, (Value.slice a l.length cap).ownBlock = some k → k < lo from fun k hk => by rw [hlo]; exact (ho.lt k hk).2)
    have B1 := Lib.hid (Bu.fresh (lo := lo) hnew (by omega))
    have F1 := Lib.hid (show Below w.heap.size w w1 from ((Below.refl _ w).alloc (Nat.le_refl _) _).trans (hb.mono (by simp)))
    have hlo1 : lo ≤ w1.heap.size := by omega
    have hwl : w.heap.size < lo := by omega
    clear hown ho hb hnew hlo hsz1
    go_wp2
    go_loopw [11] (fun c wr => ∃ k : Nat, k ≤ l.length ∧ c = .int .i64 k ∧ Hid (Bu lo w.heap.size (digL l k) wr) ∧ Hid (Below w.heap.size w wr) ∧ Hid (OwnI (w.heap.size + 1) wr (.slice a l.length cap) l) ∧ lo ≤ wr.heap.size) (fun c _ => l.length - (intOf c).toNat)
    case atStart => exact ⟨0, by omega, rfl, B1.out, F1.out, HO.out, hlo1⟩
    case round =>
      clear B1 F1 HO hlo1
      obtain ⟨k, hk, rfl, HB, HF, HO, hlo1⟩ := hrel
      have hl9 := digL_len l HO.out.1 k
      by_cases hlt : k < l.length
      · obtain ⟨b2, off2, cap2, hv, _, _, hb2, hcell2⟩ := HO.out.ints.pos (by omega)
        simp only [Value.slice.injEq] at hv
        obtain ⟨rfl, -, rfl⟩ := hv
        obtain ⟨z, hz⟩ : ∃ z, z = nth l k := ⟨_, rfl⟩
        have e0 := hcell2 k hlt
        rw [← hz] at e0
        have hzi := nth_in HO.out.1 k
        rw [← hz] at hzi
        have hz21 := Lib.itoa_length_le z hzi.1 hzi.2
        have HS2 := Lib.hid (show digL l (k + 1) = digL l k ++ Lib.itoa z by rw [digL_succ l hlt, hz])
        clear hcell2 hz
        go_wp2_with fail
        refine (implFI' z _ hzi.1 hzi.2 (HT.out.on HF.out)).mono ?_
        rintro e w2 ⟨rfl, hb⟩
        have HB2 := Lib.hid (HB.out.on hb)
        have HF2 := Lib.hid (HF.out.trans (hb.mono HF.out.size))
        have HO2 := Lib.hid (HO.out.on hb)
        have hlo2 : lo ≤ w2.heap.size := Nat.le_trans hlo1 hb.size
        clear hb e0
        go_wp2_with fail
        refine (writeS lo w.heap.size (digL l k) (Lib.itoa z) _ HB2.out (by omega) hlo2).mono ?_
        rintro e w3 ⟨rfl, hb3, hfr⟩
        rw [← HS2.out] at hb3
        have HB3 := Lib.hid hb3
        have HF3 := Lib.hid (HF2.out.trans (hfr.below (by omega) (Nat.le_refl _)))
        have HO3 := Lib.hid (hfr.ownI HO2.out (by omega) HLT.out)
        have hlo3 : lo ≤ w3.heap.size := Nat.le_trans hlo2 hfr.size
        clear hb3 hfr
        go_wp2
        go_roundw
        case rel => exact ⟨k + 1, by omega, by go_num, HB3.out, HF3.out, HO3.out, hlo3⟩
        case measure => simp [intOf]; omega
      · obtain rfl : k = l.length := by omega
        go_wp2_with fail
        refine (readS lo w.heap.size (digL l l.length) _ HB.out hlo1).mono ?_
        rintro e w2 ⟨rfl, hb⟩
        have HF2 := Lib.hid (HF.out.trans hb)
        go_wp2
        go_ret
        exact ⟨by rw [HS.out, HL.out]; rfl, HF2.out⟩

set_option maxHeartbeats 1000000 in
set_option maxRecDepth 100000 in
theorem specFSet (x : Int) (w : World) :
    Calls Tryd.prog 9 #[.int .i64 x] w fun e w' => e = .returned (.string ⟨(setT x).toArray⟩) ∧ Below w.heap.size w w' := by
  obtain ⟨l, hl⟩ : ∃ l, l = listR x := ⟨_, rfl⟩
  have hl7 := listR_length x
  rw [← hl] at hl7
  have HL := Lib.hid hl
  clear hl
  go_enter Tryd.func9, Tryd.ntmps9
  go_wp2_with fail
  refine (specListOf x _).mono ?_
  rintro e w1 ⟨v, rfl, ho, hb⟩
  rw [← HL.out] at ho
  have hown := ho.ints
  obtain ⟨a, cap, rfl, -, -⟩ := hown.form
  have HO := Lib.hid hown
  have HB := Lib.hid hb
  clear hown ho hb
  go_wp2
  go_loopw [4, 5] (fun s c wr => ∃ k : Nat, k ≤ l.length ∧ c = .int .i64 k ∧ s = .string ⟨(digL l k).toArray⟩ ∧ Hid (Below w.heap.size w wr) ∧ Hid (Ints wr (.slice a l.length cap) l)) (fun _ c _ => l.length - (intOf c).toNat)
  case atStart => exact ⟨0, by omega, rfl, rfl, HB.out, HO.out⟩
  case round =>
    clear HB HO
    obtain ⟨k, hk, rfl, rfl, HF, HO⟩ := hrel
    have hl9 := digL_len l HO.out.1 k
    by_cases hlt : k < l.length
    · obtain ⟨b2, off2, cap2, hv, _, _, hb2, hcell2⟩ := HO.out.pos (by omega)
      simp only [Value.slice.injEq] at hv
      obtain ⟨rfl, -, rfl⟩ := hv
      obtain ⟨z, hz⟩ : ∃ z, z = nth l k := ⟨_, rfl⟩
      have e0 := hcell2 k hlt
      rw [← hz] at e0
      have hzi := nth_in HO.out.1 k
      rw [← hz] at hzi
      have hz21 := Lib.itoa_length_le z hzi.1 hzi.2
      have HS2 := Lib.hid (show (({ data := (digL l k).toArray } : ByteArray) ++ ({ data := (Lib.itoa z).toArray } : ByteArray)) = { data := (digL l (k + 1)).toArray } by rw [str_app, digL_succ l hlt, hz])
      clear hcell2 hz
      go_wp2_with fail
      refine (specFI z _ hzi.1 hzi.2).mono ?_
      rintro e w2 ⟨rfl, hb⟩
      have HF2 := Lib.hid (HF.out.trans (hb.mono HF.out.size))
      have HO2 := Lib.hid (HO.out.on hb)
      clear hb e0
      go_wp2
      go_roundw
      case rel => exact ⟨k + 1, by omega, by go_num, by rw [HS2.out], HF2.out, HO2.out⟩
      case measure => simp [intOf]; omega
    · obtain rfl : k = l.length := by omega
      obtain ⟨S, hS⟩ : ∃ S : ByteArray, S = { data := (digL l l.length).toArray } := ⟨_, rfl⟩
      have hem : S.toList = digL l l.length := by rw [hS, Lib.toList_data]
      rw [← hS]
      have HFIN := Lib.hid hS
      by_cases hx : 1 ≤ x ∧ x ≤ 127
      · have hne : digL l l.length ≠ [] := fun e => by
          have h1 : 0 < l.length := by
            rw [HL.out]
            unfold listR
            rw [if_pos (by omega)]
            obtain ⟨X, hX⟩ : ∃ X : Nat, x = (X : Int) := ⟨x.toNat, by omega⟩
            rw [hX, listU_nat]
            have := (low_facts X (by omega) (by omega)).2.2.1
            simpa using this
          have h2 := digL_succ l (show 0 < l.length by omega)
          obtain ⟨n, hn⟩ : ∃ n, l.length = n + 1 := ⟨l.length - 1, by omega⟩
          rw [hn, digL_succ l (by omega)] at e
          have h3 := itoa_pos (nth l n)
          rw [(List.append_eq_nil_iff.1 e).2] at h3
          exact absurd h3 (by decide)
        have e1 : S.toList.isEmpty = false := by rw [hem]; simpa using hne
        have e2 : (S.toList == []) = false := by rw [hem, beq_eq_false_iff_ne]; exact hne
        have HS := Lib.hid (show S = { data := (setT x).toArray } by rw [HFIN.out]; unfold setT; rw [if_neg (by omega), ← HL.out])
        clear hS hem hne
        go_wp2
        go_ret
        exact ⟨by rw [← HS.out]; rfl, HF.out⟩
      · have hl0 : l = [] := by
          rw [HL.out]
          by_cases h0 : x = 0
          · rw [h0]; exact listR_zero
          · unfold listR; rw [if_neg (by omega)]
        have hd : digL l l.length = [] := by rw [hl0]; rfl
        have e1 : S.toList.isEmpty = true := by rw [hem, hd]; rfl
        have e2 : (S.toList == []) = true := by rw [hem, hd]; rfl
        by_cases h0 : x = 0
        · subst h0
          clear hS hem hl0 hd hx
          go_wp2_with fail
          refine (l3Fine_yes 0 _ (by omega) (by omega)).mono ?_
          rintro e w2 ⟨rfl, rfl⟩
          go_wp2
          go_ret
          exact ⟨rfl, HF.out⟩
        · have HS := Lib.hid (show S = { data := (setT x).toArray } by rw [HFIN.out]; unfold setT; rw [if_neg h0, ← HL.out])
          have HX := Lib.hid (show ¬ (0 ≤ x ∧ x ≤ 127) from by omega)
          clear hS hem hl0 hd hx h0
          go_wp2_with fail
          refine (l3Fine_no x _ HX.out).mono ?_
          rintro e w2 ⟨rfl, rfl⟩
          go_wp2
          go_ret
          exact ⟨by rw [← HS.out]; rfl, HF.out⟩

end Go.Proofs.YtcpchdnhhjhpaacDoor
