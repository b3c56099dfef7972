/- Walks over ListOf of the specification, and CountSet. -/
import Derived.Test.YtpifgmmmmhenmabH1
namespace Go.Proofs.Ytpifgmmmmhenmab
set_option linter.unusedVariables false
set_option linter.unusedSimpArgs false
open Go.RowKit

/-- The members of a set below j, in their order. -/
def listU (s : Int) (j : Nat) : List Int := ((List.range j).filter fun v => decide (bitAt s v = 1)).map fun v : Nat => (v : Int)

theorem listU_succ (s : Int) (j : Nat) : listU s (j + 1) = listU s j ++ (if bitAt s j = 1 then [(j : Int)] else []) := by
  unfold listU
  rw [List.range_succ, List.filter_append, List.map_append]
  by_cases h : bitAt s j = 1 <;> simp [h]

theorem listU_length (s : Int) (j : Nat) : (listU s j).length ≤ j := by
  unfold listU
  have := List.length_filter_le (fun v => decide (bitAt s v = 1)) (List.range j)
  simpa using this

theorem listU_in (s : Int) (j : Nat) (hj : j ≤ 1000) : inI64 (listU s j) := fun x hx => by
  unfold listU at hx
  simp only [List.mem_map, List.mem_filter, List.mem_range] at hx
  obtain ⟨v, ⟨hv, -⟩, rfl⟩ := hx
  omega

theorem l3Fine_yes (x : Int) (w : World) (h0 : 0 ≤ x) (h1 : x ≤ 127) : Calls Try.prog 77 #[.int .i64 x] w fun e w' => e = .returned (.bool true) ∧ w = w' := by
  go_enter Try.func77, Try.ntmps77
  go_wp2_with fail
  refine (l1In_yes' _ _ _ _ h0 h1).mono ?_
  rintro e w1 ⟨rfl, rfl⟩
  go_wp2
  go_ret
  exact ⟨rfl, rfl⟩

theorem l3Fine_no (x : Int) (w : World) (h : ¬ (0 ≤ x ∧ x ≤ 127)) : Calls Try.prog 77 #[.int .i64 x] w fun e w' => e = .returned (.bool false) ∧ w = w' := by
  have H := Lib.hid h
  clear h
  go_enter Try.func77, Try.ntmps77
  go_wp2_with fail
  refine (l1In_no' _ _ _ _ H.out).mono ?_
  rintro e w1 ⟨rfl, rfl⟩
  go_wp2
  go_ret
  exact ⟨rfl, rfl⟩

set_option maxHeartbeats 1000000 in
set_option maxRecDepth 100000 in
theorem specListOf_no (x : Int) (w : World) (h : ¬ (0 ≤ x ∧ x ≤ 127)) : Calls Try.prog 69 #[.int .i64 x] w (GetsI w.heap.size w []) := by
  have H := Lib.hid h
  clear h
  go_enter Try.func69, Try.ntmps69
  go_wp2
  go_loopw [3, 4] (fun v i wr => i = .int .i64 0 ∧ v = .slice (some ⟨w.heap.size, 0, none⟩) 0 0 ∧ OwnI w.heap.size wr (.slice (some ⟨w.heap.size, 0, none⟩) 0 0) [] ∧ Below w.heap.size w wr) (fun _ _ _ => 0)
  case atStart => exact ⟨rfl, rfl, ⟨inI64_nil, by simpa [iv] using World.ownsRow_lit w #[] 0 (Nat.le_refl _) (by simp [maxLen]) rfl⟩, (Below.refl _ _).alloc (Nat.le_refl _) _⟩
  case round =>
    obtain ⟨rfl, rfl, ho, hb⟩ := hrel
    have HO := Lib.hid ho
    have HB := Lib.hid hb
    clear ho hb
    go_wp2_with fail
    refine (l3Fine_no x _ H.out).mono ?_
    rintro e w1 ⟨rfl, rfl⟩
    go_wp2
    go_ret
    exact ⟨_, rfl, HO.out, HB.out⟩

set_option maxHeartbeats 1000000 in
set_option maxRecDepth 100000 in
theorem specListOf_yes (x : Int) (w : World) (h0 : 0 ≤ x) (h1 : x ≤ 127) : Calls Try.prog 69 #[.int .i64 x] w (GetsI w.heap.size w (listU x 7)) := by
  obtain ⟨i0, hi, hz0, hz1, hz2⟩ := info_parts infoInt
  go_enter Try.func69, Try.ntmps69
  go_wp2
  go_loopw [3, 4] (fun v i wr => ∃ j : Nat, j ≤ 7 ∧ i = .int .i64 j ∧ OwnI w.heap.size wr v (listU x j) ∧ Below w.heap.size w wr ∧ v ≠ .slice none 0 0) (fun _ i _ => 7 - (intOf i).toNat)
  case atStart =>
    refine ⟨0, by omega, rfl, ?_, (Below.refl _ _).alloc (Nat.le_refl _) _, by simp⟩
    rw [show listU x 0 = [] from rfl]
    exact ⟨inI64_nil, by simpa [iv] using World.ownsRow_lit w #[] 0 (Nat.le_refl _) (by simp [maxLen]) rfl⟩
  case round =>
    obtain ⟨j, hj, rfl, ho, hb, hv⟩ := hrel
    have HO := Lib.hid ho
    have HB := Lib.hid hb
    have hsz := hb.size
    clear ho hb
    by_cases hlt : j < 7
    · obtain ⟨t, ht⟩ : ∃ t, t = bitAt x j := ⟨_, rfl⟩
      have e1 : bits .and .i64 (x / 2 ^ j) 1 = t := by rw [ht]; exact and_one_bit x j
      have z1 : t = 0 ∨ t = 1 := by rw [ht]; exact bitAt_two _ _
      have HS := Lib.hid (listU_succ x j)
      have HLN := Lib.hid (listU_length x j)
      rw [← ht] at HS
      have hji : (j : Int) < 7 := by omega
      clear ht
      go_wp2_with fail
      refine (l3Fine_yes x _ h0 h1).mono ?_
      rintro e w1 ⟨rfl, rfl⟩
      rcases z1 with rfl | rfl
      · have HT := Lib.hid (show listU x (j + 1) = listU x j by have := HS.out; simpa using this)
        go_wp2
        go_roundw
        case rel => exact ⟨j + 1, by omega, by go_num, by rw [HT.out]; exact HO.out, HB.out, hv⟩
        case measure => simp [intOf]; omega
      · have HT := Lib.hid (show listU x (j + 1) = listU x j ++ [(j : Int)] by have := HS.out; simpa using this)
        go_wp2_with (at_builtin; refine wpList_append_int rfl (.tmp 19) (.tmp 21) 22 rfl w.heap.size i0 Try.underlying22 hi hz0 hz1 hz2 _ _ rfl HO.out j (by omega) (by omega) rfl (by have := HLN.out; omega) hsz ?_)
        intro v' w2 ho2 hg2 hv2
        have HO2 := Lib.hid ho2
        have HB2 := Lib.hid ((HB.out.alloc hsz (.cells #[.int .i64 (j : Int)] 3)).grown hg2 (by simp; omega) (fun k hk => (HO.out.lt k hk).1))
        clear ho2 hg2
        go_wp2
        go_roundw
        case rel => exact ⟨j + 1, by omega, by go_num, by rw [HT.out]; exact HO2.out, HB2.out, hv2⟩
        case measure => simp [intOf]; omega
    · obtain rfl : j = 7 := by omega
      go_wp2
      go_ret
      exact ⟨_, rfl, HO.out, HB.out⟩

/-- How many members a set has. -/
def popU (x : Int) : Int := if 0 ≤ x ∧ x ≤ 127 then ((listU x 7).length : Int) else 0

theorem specCountSet (x : Int) (w : World) : Calls Try.prog 39 #[.int .i64 x] w fun e w' => e = .returned (.int .i64 (popU x)) ∧ Below w.heap.size w w' := by
  by_cases h : 0 ≤ x ∧ x ≤ 127
  · have HP := Lib.hid (show popU x = ((listU x 7).length : Int) by unfold popU; rw [if_pos h])
    obtain ⟨h0, h1⟩ := h
    go_enter Try.func39, Try.ntmps39
    go_wp2_with fail
    refine (specListOf_yes x _ h0 h1).mono ?_
    rintro e w1 ⟨v, rfl, ho, hb⟩
    obtain ⟨a, cap, rfl, -, -⟩ := ho.ints.form
    have HB := Lib.hid hb
    clear ho hb
    go_wp2
    go_ret
    exact ⟨by rw [HP.out]; rfl, HB.out⟩
  · have HP := Lib.hid (show popU x = 0 by unfold popU; rw [if_neg h])
    have H := Lib.hid h
    clear h
    go_enter Try.func39, Try.ntmps39
    go_wp2_with fail
    refine (specListOf_no x _ H.out).mono ?_
    rintro e w1 ⟨v, rfl, ho, hb⟩
    obtain ⟨a, cap, rfl, -, -⟩ := ho.ints.form
    have HB := Lib.hid hb
    clear ho hb
    go_wp2
    go_ret
    exact ⟨by rw [HP.out]; rfl, HB.out⟩

theorem isAnySet_yes (x : Int) (w : World) (h0 : 0 ≤ x) (h1 : x ≤ 127) : Calls Try.prog 70 #[.int .i64 x] w fun e w' => e = .returned (.bool true) ∧ w = w' := by
  have d0 : decide (0 ≤ x) = true := by simp [h0]
  have d1 : decide (x < 128) = true := by simp; omega
  go_enter Try.func70, Try.ntmps70
  go_wp2
  go_ret
  exact ⟨rfl, rfl⟩

theorem isAnySet_no (x : Int) (w : World) (h : ¬ (0 ≤ x ∧ x ≤ 127)) : Calls Try.prog 70 #[.int .i64 x] w fun e w' => e = .returned (.bool false) ∧ w = w' := by
  by_cases h0 : 0 ≤ x
  · have d0 : decide (0 ≤ x) = true := by simp [h0]
    have d1 : decide (x < 128) = false := by simp; omega
    clear h
    go_enter Try.func70, Try.ntmps70
    go_wp2
    go_ret
    exact ⟨rfl, rfl⟩
  · have d0 : decide (0 ≤ x) = false := by simp; omega
    clear h
    go_enter Try.func70, Try.ntmps70
    go_wp2
    go_ret
    exact ⟨rfl, rfl⟩

set_option maxHeartbeats 1000000 in
theorem onesCount64 (k : Nat) (hk : k < 128) (w : World) : Calls Try.prog 94 #[.int .u64 k] w fun e w' => e = .returned (.int .i64 ((listU k 7).length : Int)) ∧ w = w' := by
  go_enter Try.func94, Try.ntmps94
  go_wp2
  go_ret
  refine ⟨congrArg (fun z => Ending.returned (.int .i64 z)) ?_, rfl⟩
  revert k
  decide +kernel

theorem onesCount (k : Nat) (hk : k < 128) (w : World) : Calls Try.prog 71 #[.int .u64 k] w fun e w' => e = .returned (.int .i64 ((listU k 7).length : Int)) ∧ w = w' := by
  go_enter Try.func71, Try.ntmps71
  go_wp2_with fail
  refine (onesCount64 k hk _).mono ?_
  rintro e w1 ⟨rfl, rfl⟩
  go_wp2
  go_ret
  exact ⟨rfl, rfl⟩

theorem implCountSet (x : Int) (w : World) : Calls Try.prog 43 #[.int .i64 x] w fun e w' => e = .returned (.int .i64 (popU x)) ∧ w = w' := by
  by_cases h : 0 ≤ x ∧ x ≤ 127
  · have HP := Lib.hid (show popU x = ((listU x 7).length : Int) by unfold popU; rw [if_pos h])
    obtain ⟨h0, h1⟩ := h
    obtain ⟨k, rfl⟩ := Int.eq_ofNat_of_zero_le h0
    have hk : k < 128 := by omega
    go_enter Try.func43, Try.ntmps43
    go_wp2_with fail
    refine (isAnySet_yes k _ h0 h1).mono ?_
    rintro e w1 ⟨rfl, rfl⟩
    go_wp2_with fail
    refine (onesCount k hk _).mono ?_
    rintro e w1 ⟨rfl, rfl⟩
    go_wp2
    go_ret
    exact ⟨by rw [HP.out]; rfl, rfl⟩
  · have HP := Lib.hid (show popU x = 0 by unfold popU; rw [if_neg h])
    have H := Lib.hid h
    clear h
    go_enter Try.func43, Try.ntmps43
    go_wp2_with fail
    refine (isAnySet_no x _ H.out).mono ?_
    rintro e w1 ⟨rfl, rfl⟩
    go_wp2
    go_ret
    exact ⟨by rw [HP.out]; rfl, rfl⟩

end Go.Proofs.Ytpifgmmmmhenmab
