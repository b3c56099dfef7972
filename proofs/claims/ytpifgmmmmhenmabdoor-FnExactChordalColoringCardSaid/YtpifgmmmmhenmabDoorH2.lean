/- Walks over SetOf. -/
import Derived.Test.YtpifgmmmmhenmabDoorH1
namespace Go.Proofs.YtpifgmmmmhenmabDoor
set_option linter.unusedVariables false
set_option linter.unusedSimpArgs false
open Go.RowKit

/-- The set of a list of vertices, from s on; none if a member is no vertex or comes twice. -/
def setOf : List Int → Int → Option Int
  | [], s => some s
  | x :: t, s => if 0 ≤ x ∧ x ≤ 6 ∧ bitAt s x.toNat = 0 then setOf t (s + 2 ^ x.toNat) else none

def outI : Option Int → Int
  | some s => s
  | none => 0

def outB : Option Int → Bool
  | some _ => true
  | none => false

theorem set_small (s : Int) (j : Nat) (h0 : 0 ≤ s) (h1 : s < 128) (hj : j < 7) (hb : bitAt s j = 0) : bits .or .i64 s (2 ^ j) = s + 2 ^ j ∧ s + 2 ^ j < 128 := by
  obtain ⟨k, rfl⟩ := Int.eq_ofNat_of_zero_le h0
  have : ∀ (k : Fin 128) (j : Fin 7), bitAt ((k.val : Nat) : Int) j.val = 0 → bits .or .i64 ((k.val : Nat) : Int) (2 ^ j.val) = ((k.val : Nat) : Int) + 2 ^ j.val ∧ ((k.val : Nat) : Int) + 2 ^ j.val < 128 := by decide +kernel
  exact this ⟨k, by omega⟩ ⟨j, hj⟩ hb

theorem drop_nth (l : List Int) (j : Nat) (h : j < l.length) : l.drop j = nth l j :: l.drop (j + 1) := by
  rw [List.drop_eq_getElem_cons h]
  simp [nth, List.getD, h]

theorem setOf_step (l : List Int) (j : Nat) (s : Int) (h : j < l.length) (h0 : 0 ≤ nth l j) (h6 : nth l j ≤ 6) (hb : bitAt s (nth l j).toNat = 0) : setOf (l.drop j) s = setOf (l.drop (j + 1)) (s + 2 ^ (nth l j).toNat) := by
  rw [drop_nth l j h]
  show (if _ then _ else _) = _
  rw [if_pos ⟨h0, h6, hb⟩]

theorem setOf_stop (l : List Int) (j : Nat) (s : Int) (h : j < l.length) (hn : ¬ (0 ≤ nth l j ∧ nth l j ≤ 6 ∧ bitAt s (nth l j).toNat = 0)) : setOf (l.drop j) s = none := by
  rw [drop_nth l j h]
  show (if _ then _ else _) = _
  rw [if_neg hn]

/-- A number and a flag. -/
def SaysIB (x : Int) (b : Bool) (w : World) (e : Ending) (w' : World) : Prop := e = .returned (.tuple #[.int .i64 x, .bool b]) ∧ Below w.heap.size w w'

set_option maxHeartbeats 1000000 in
set_option maxRecDepth 100000 in
theorem implSetOf (v : Value) (l : List Int) (w : World) (h : Ints w v l) (hl : l.length ≤ 100000000) :
    Calls Tryd.prog 76 #[v] w (SaysIB (outI (setOf l 0)) (outB (setOf l 0)) w) := by
  obtain ⟨a, cap, rfl, -, hm⟩ := h.form
  have HI := Lib.hid h
  clear h
  unfold maxLen at hm
  obtain ⟨R, hR⟩ : ∃ R, R = setOf l 0 := ⟨_, rfl⟩
  rw [← hR]
  have HRR := Lib.hid hR
  clear hR
  go_enter Tryd.func76, Tryd.ntmps76
  go_wp2
  go_loopw [4, 9] (fun x i wr => ∃ (j : Nat) (s : Int), j ≤ l.length ∧ i = .int .i64 j ∧ x = .int .i64 s ∧ 0 ≤ s ∧ s < 128 ∧ Hid (R = setOf (l.drop j) s) ∧ wr = w) (fun _ i _ => l.length - (intOf i).toNat)
  case atStart => exact ⟨0, 0, by omega, rfl, rfl, by omega, by omega, HRR.out, rfl⟩
  case round =>
    obtain ⟨j, s, hj, rfl, rfl, s0, s1, HS, rfl⟩ := hrel
    by_cases hlt : j < l.length
    · obtain ⟨b, off, cap1, hv, _, _, hb, hcell⟩ := HI.out.pos (by omega)
      simp only [Value.slice.injEq] at hv
      obtain ⟨rfl, -, rfl⟩ := hv
      obtain ⟨x, hx⟩ : ∃ x, x = nth l j := ⟨_, rfl⟩
      have c1 := hcell j hlt
      rw [← hx] at c1
      have HX := Lib.hid hx
      clear hcell hx
      by_cases x0 : x < 0
      · have d0 : decide (x < 0) = true := by simp [x0]
        have HN := Lib.hid (show R = none by rw [HS.out]; exact setOf_stop l j s hlt (by rw [← HX.out]; omega))
        go_wp2
        go_ret2
        rw [HN.out]
        exact ⟨rfl, Below.refl _ _⟩
      · have d0 : decide (x < 0) = false := by simp; omega
        by_cases x7 : x < 7
        · have d1 : decide (7 ≤ x) = false := by simp; omega
          obtain ⟨k, rfl⟩ := Int.eq_ofNat_of_zero_le (show 0 ≤ x by omega)
          obtain ⟨t, ht⟩ : ∃ t, t = bitAt s k := ⟨_, rfl⟩
          have e1 : bits .and .i64 (s / 2 ^ k) 1 = t := by rw [ht]; exact and_one_bit s k
          have E1 := Lib.hid e1
          have z1 : t = 0 ∨ t = 1 := by rw [ht]; exact bitAt_two _ _
          have HT := Lib.hid ht
          clear ht
          have hk7 : (k : Int) < 7 := x7
          rcases z1 with rfl | rfl
          · obtain ⟨o1, o2⟩ := set_small s k s0 s1 (by omega) HT.out.symm
            obtain ⟨-, -, -, s4, s5⟩ := shl_one (k : Int) (by omega) (by omega)
            rw [Int.toNat_natCast] at s4 s5
            obtain ⟨K, eK, hK1, hK2⟩ : ∃ K, (2 : Int) ^ k = K ∧ 1 ≤ K ∧ K ≤ 128 := ⟨_, rfl, by omega, s4⟩
            have HSN := Lib.hid (setOf_step l j s hlt (by rw [← HX.out]; omega) (by rw [← HX.out]; omega) (by rw [← HX.out, Int.toNat_natCast]; exact HT.out.symm))
            rw [← HX.out, Int.toNat_natCast, eK] at HSN
            rw [eK] at o1 o2
            have e1' : bits .and .i64 (s / K) 1 = 0 := by rw [← eK]; exact E1.out
            have O1 := Lib.hid o1
            have HEK := Lib.hid eK
            clear s4 s5 o1
            go_wp2
            clear eK
            go_roundw
            case rel => exact ⟨j + 1, s + K, by omega, by go_num, congrArg (Value.int .i64) O1.out, by omega, o2, by rw [HS.out]; exact HSN.out, trivial⟩
            case measure => simp [intOf]; omega
          · have HN := Lib.hid (show R = none by rw [HS.out]; exact setOf_stop l j s hlt (by rw [← HX.out, Int.toNat_natCast, ← HT.out]; omega))
            go_wp2
            go_ret2
            rw [HN.out]
            exact ⟨rfl, Below.refl _ _⟩
        · have d1 : decide (7 ≤ x) = true := by simp; omega
          have HN := Lib.hid (show R = none by rw [HS.out]; exact setOf_stop l j s hlt (by rw [← HX.out]; omega))
          go_wp2
          go_ret2
          rw [HN.out]
          exact ⟨rfl, Below.refl _ _⟩
    · obtain rfl : j = l.length := by omega
      have HN := Lib.hid (show R = some s by rw [HS.out, List.drop_length]; rfl)
      go_wp2
      go_ret2
      rw [HN.out]
      exact ⟨rfl, Below.refl _ _⟩

set_option maxHeartbeats 1000000 in
set_option maxRecDepth 100000 in
theorem specSetOf (v : Value) (l : List Int) (w : World) (h : Ints w v l) (hl : l.length ≤ 100000000) :
    Calls Tryd.prog 96 #[v] w (SaysIB (outI (setOf l 0)) (outB (setOf l 0)) w) := by
  obtain ⟨a, cap, rfl, -, hm⟩ := h.form
  have HI := Lib.hid h
  clear h
  unfold maxLen at hm
  obtain ⟨R, hR⟩ : ∃ R, R = setOf l 0 := ⟨_, rfl⟩
  rw [← hR]
  have HRR := Lib.hid hR
  clear hR
  go_enter Tryd.func96, Tryd.ntmps96
  go_wp2
  go_loopw [4, 5] (fun x i wr => ∃ (j : Nat) (s : Int), j ≤ l.length ∧ i = .int .i64 j ∧ x = .int .i64 s ∧ 0 ≤ s ∧ s < 128 ∧ Hid (R = setOf (l.drop j) s) ∧ wr = w) (fun _ i _ => l.length - (intOf i).toNat)
  case atStart => exact ⟨0, 0, by omega, rfl, rfl, by omega, by omega, HRR.out, rfl⟩
  case round =>
    obtain ⟨j, s, hj, rfl, rfl, s0, s1, HS, rfl⟩ := hrel
    by_cases hlt : j < l.length
    · obtain ⟨b, off, cap1, hv, _, _, hb, hcell⟩ := HI.out.pos (by omega)
      simp only [Value.slice.injEq] at hv
      obtain ⟨rfl, -, rfl⟩ := hv
      obtain ⟨x, hx⟩ : ∃ x, x = nth l j := ⟨_, rfl⟩
      have c1 := hcell j hlt
      rw [← hx] at c1
      have HX := Lib.hid hx
      clear hcell hx
      by_cases hx6 : 0 ≤ x ∧ x ≤ 6
      · obtain ⟨x0, x6⟩ := hx6
        obtain ⟨k, rfl⟩ := Int.eq_ofNat_of_zero_le x0
        obtain ⟨t, ht⟩ : ∃ t, t = bitAt s k := ⟨_, rfl⟩
        have e1 : bits .and .i64 (s / 2 ^ k) 1 = t := by rw [ht]; exact and_one_bit s k
        have z1 : t = 0 ∨ t = 1 := by rw [ht]; exact bitAt_two _ _
        have HT := Lib.hid ht
        clear ht
        go_wp2_with fail
        refine (l1In_yes' _ _ _ _ x0 x6).mono ?_
        rintro e w1 ⟨rfl, rfl⟩
        rcases z1 with rfl | rfl
        · obtain ⟨o1, o2⟩ := set_small s k s0 s1 (by omega) HT.out.symm
          obtain ⟨-, -, -, s4, s5⟩ := shl_one (k : Int) (by omega) (by omega)
          rw [Int.toNat_natCast] at s4 s5
          obtain ⟨K, eK, hK1, hK2⟩ : ∃ K, (2 : Int) ^ k = K ∧ 1 ≤ K ∧ K ≤ 128 := ⟨_, rfl, by omega, s4⟩
          have HSN := Lib.hid (setOf_step l j s hlt (by rw [← HX.out]; omega) (by rw [← HX.out]; omega) (by rw [← HX.out, Int.toNat_natCast]; exact HT.out.symm))
          rw [← HX.out, Int.toNat_natCast, eK] at HSN
          have e1' : bits .and .i64 (s / K) 1 = 0 := by rw [← eK]; exact e1
          rw [eK] at o2
          clear s4 s5 o1
          go_wp2
          go_roundw
          case rel => exact ⟨j + 1, s + K, by omega, by go_num, rfl, by omega, o2, by rw [HS.out]; exact HSN.out, trivial⟩
          case measure => simp [intOf]; omega
        · have HN := Lib.hid (show R = none by rw [HS.out]; exact setOf_stop l j s hlt (by rw [← HX.out, Int.toNat_natCast, ← HT.out]; omega))
          go_wp2
          go_ret2
          rw [HN.out]
          exact ⟨rfl, Below.refl _ _⟩
      · have HN := Lib.hid (show R = none by rw [HS.out]; exact setOf_stop l j s hlt (by rw [← HX.out]; omega))
        go_wp2_with fail
        refine (l1In_no' _ _ _ _ hx6).mono ?_
        rintro e w1 ⟨rfl, rfl⟩
        go_wp2
        go_ret2
        rw [HN.out]
        exact ⟨rfl, Below.refl _ _⟩
    · obtain rfl : j = l.length := by omega
      have HN := Lib.hid (show R = some s by rw [HS.out, List.drop_length]; rfl)
      go_wp2
      go_ret2
      rw [HN.out]
      exact ⟨rfl, Below.refl _ _⟩

end Go.Proofs.YtpifgmmmmhenmabDoor
