/- PermutationOfModel: the places of the members of one list in another one. -/
import Derived.Test.YtbmpljclplddeabM6
import Derived.Test.YtbmpljclplddeabV6
import Derived.Test.YtbmpljclplddeabL1
namespace Go.Proofs.Ytbmpljclplddeab
set_option linter.unusedVariables false
set_option linter.unusedSimpArgs false
open Go.RowKit

/-- Where x stands first, from the j-th place on. -/
def placeI : List Int → Int → Nat → Int
  | [], _, _ => -1
  | y :: t, x, j => if y = x then (j : Int) else placeI t x (j + 1)

theorem place_step (l : List Int) (x : Int) (j : Nat) (h : j < l.length) : placeI (l.drop j) x j = if nth l j = x then (j : Int) else placeI (l.drop (j + 1)) x (j + 1) := by
  rw [drop_nth l j h]; rfl

theorem place_bd (l : List Int) (x : Int) (j : Nat) (hl : l.length ≤ 1048576) (hj : j ≤ l.length) : -1 ≤ placeI (l.drop j) x j ∧ placeI (l.drop j) x j ≤ 1048576 := by
  obtain ⟨d, hd⟩ : ∃ d, d = l.length - j := ⟨_, rfl⟩
  induction d generalizing j with
  | zero =>
    have : j = l.length := by omega
    rw [this, List.drop_length]
    simp [placeI]
  | succ d ih =>
    rw [place_step l x j (by omega)]
    split
    · omega
    · exact ih (j + 1) (by omega) (by omega)

def placesL (a b : List Int) : List Int := a.map fun x => placeI b x 0

theorem placesL_length (a b : List Int) : (placesL a b).length = a.length := by simp [placesL]

theorem placesL_nth (a b : List Int) (i : Nat) (h : i < a.length) : nth (placesL a b) i = placeI b (nth a i) 0 := by
  simp [placesL, nth, List.getD, h]

set_option maxHeartbeats 1000000 in
theorem indexOf_is (v : Value) (l : List Int) (x : Int) (w : World) (h : Ints w v l) (hl : l.length ≤ 1048576) :
    Calls Try.prog 132 #[v, .int .i64 x] w fun e w' => e = .returned (.int .i64 (placeI l x 0)) ∧ w = w' := by
  obtain ⟨a, cap, rfl, -, hm⟩ := h.form
  have HI := Lib.hid h
  unfold maxLen at hm
  clear h
  obtain ⟨R, hR⟩ : ∃ R, R = placeI l x 0 := ⟨_, rfl⟩
  have HR := Lib.hid hR
  rw [← hR]
  clear hR
  go_enter Try.func132, Try.ntmps132
  go_wp2
  go_loopw [5, 8] (fun y i wr => ∃ j : Nat, j ≤ l.length ∧ i = .int .i64 j ∧ Hid (R = placeI (l.drop j) x j) ∧ wr = w) (fun _ i _ => l.length - (intOf i).toNat)
  case atStart => exact ⟨0, by omega, rfl, HR.out, rfl⟩
  case round =>
    obtain ⟨j, hj, rfl, HJ, rfl⟩ := hrel
    by_cases hlt : j < l.length
    · obtain ⟨b, off, cap1, hv, _, _, hb, hcell⟩ := HI.out.pos (by omega)
      simp only [Value.slice.injEq] at hv
      obtain ⟨rfl, -, rfl⟩ := hv
      obtain ⟨y, hy⟩ : ∃ y, y = nth l j := ⟨_, rfl⟩
      have c1 := hcell j hlt
      rw [← hy] at c1
      have HS := Lib.hid (place_step l x j hlt)
      rw [← hy] at HS
      clear hcell hy
      by_cases he : y = x
      · have d0 : (x == y) = true := by rw [beq_iff_eq]; exact he.symm
        have HN := Lib.hid (show R = j by rw [HJ.out, HS.out, if_pos he])
        clear he
        go_wp2
        go_ret
        exact ⟨by rw [HN.out]; rfl, rfl⟩
      · have d0 : (x == y) = false := by rw [beq_eq_false_iff_ne]; exact fun h => he h.symm
        have HN := Lib.hid (show R = placeI (l.drop (j + 1)) x (j + 1) by rw [HJ.out, HS.out, if_neg he])
        clear he
        go_wp2
        go_roundw
        case rel => exact ⟨j + 1, by omega, by go_num, HN.out, by first | rfl | trivial⟩
        case measure => simp [intOf]; omega
    · obtain rfl : j = l.length := by omega
      have HN := Lib.hid (show R = -1 by rw [HJ.out, List.drop_length]; rfl)
      go_wp2
      go_ret
      exact ⟨by rw [HN.out]; rfl, rfl⟩

set_option maxHeartbeats 1000000 in
theorem place_is (v : Value) (l : List Int) (x : Int) (w : World) (h : Ints w v l) (hl : l.length ≤ 1048576) :
    Calls Try.prog 81 #[v, .int .i64 x] w fun e w' => e = .returned (.int .i64 (placeI l x 0)) ∧ w = w' := by
  obtain ⟨a, cap, rfl, -, hm⟩ := h.form
  have HI := Lib.hid h
  unfold maxLen at hm
  clear h
  obtain ⟨R, hR⟩ : ∃ R, R = placeI l x 0 := ⟨_, rfl⟩
  have HR := Lib.hid hR
  rw [← hR]
  clear hR
  go_enter Try.func81, Try.ntmps81
  go_wp2
  go_loopw [5] (fun i wr => ∃ j : Nat, j ≤ l.length ∧ i = .int .i64 j ∧ Hid (R = placeI (l.drop j) x j) ∧ wr = w) (fun i _ => l.length - (intOf i).toNat)
  case atStart => exact ⟨0, by omega, rfl, HR.out, rfl⟩
  case round =>
    obtain ⟨j, hj, rfl, HJ, rfl⟩ := hrel
    by_cases hlt : j < l.length
    · obtain ⟨b, off, cap1, hv, _, _, hb, hcell⟩ := HI.out.pos (by omega)
      simp only [Value.slice.injEq] at hv
      obtain ⟨rfl, -, rfl⟩ := hv
      obtain ⟨y, hy⟩ : ∃ y, y = nth l j := ⟨_, rfl⟩
      have c1 := hcell j hlt
      rw [← hy] at c1
      have HS := Lib.hid (place_step l x j hlt)
      rw [← hy] at HS
      clear hcell hy
      by_cases he : y = x
      · have d0 : (y == x) = true := by rw [beq_iff_eq]; exact he
        have HN := Lib.hid (show R = j by rw [HJ.out, HS.out, if_pos he])
        clear he
        go_wp2
        go_ret
        exact ⟨by rw [HN.out]; rfl, rfl⟩
      · have d0 : (y == x) = false := by rw [beq_eq_false_iff_ne]; exact he
        have HN := Lib.hid (show R = placeI (l.drop (j + 1)) x (j + 1) by rw [HJ.out, HS.out, if_neg he])
        clear he
        go_wp2
        go_roundw
        case rel => exact ⟨j + 1, by omega, by go_num, HN.out, by first | rfl | trivial⟩
        case measure => simp [intOf]; omega
    · obtain rfl : j = l.length := by omega
      have HN := Lib.hid (show R = -1 by rw [HJ.out, List.drop_length]; rfl)
      go_wp2
      go_ret
      exact ⟨by rw [HN.out]; rfl, rfl⟩

set_option maxHeartbeats 2000000 in
set_option maxRecDepth 100000 in
theorem placesIn_is (vb va : Value) (b a : List Int) (w : World) (hb : Ints w vb b) (ha : Ints w va a) (hbl : b.length ≤ 1048576) (hal : a.length ≤ 1048576) :
    Calls Try.prog 127 #[vb, va] w (GetsI w.heap.size w (placesL a b)) := by
  obtain ⟨aa, cap, rfl, hc, hm⟩ := ha.form
  obtain ⟨ab, capb, rfl, -, -⟩ := hb.form
  have hmk := fun W : World => run_make_row' (P := Try.prog) 22 3 (.int .i64 0) 8 Try.underlying22 infoInt rfl .i64 .i64 a.length (by omega) (by omega) W
  have HI := Lib.hid ha
  have HJ := Lib.hid hb
  clear ha hb
  unfold maxLen at hm
  go_enter Try.func127, Try.ntmps127
  go_wp2
  go_loopw [6, 7, 13] (fun p q i wr => ∃ j : Nat, j ≤ a.length ∧ i = .int .i64 j ∧ wr.rowIs w.heap.size 3 a.length (fun t => .int .i64 (if t < j then nth (placesL a b) t else 0)) ∧ Below w.heap.size w wr) (fun _ _ i _ => a.length - (intOf i).toNat)
  case atStart => exact ⟨0, by omega, rfl, (World.rowIs_made w (.int .i64 0) a.length 3).congr (fun i hi => by simp), (Below.refl _ _).alloc (Nat.le_refl _) _⟩
  case round =>
    clear hmk
    obtain ⟨j, hj, rfl, hrow, hbel⟩ := hrel
    by_cases hlt : j < a.length
    · obtain ⟨b1, off, cap', hv, _, _, hb, hcell⟩ := HI.out.pos (by omega)
      simp only [Value.slice.injEq] at hv
      obtain ⟨rfl, -, rfl⟩ := hv
      obtain ⟨x, hx⟩ : ∃ x, x = nth a j := ⟨_, rfl⟩
      have c1 : wr.cell? ⟨b1, off + j, none⟩ = some (.int .i64 x) := by rw [hx]; exact (hbel.cell (p := ⟨b1, off + j, none⟩) hb).trans (hcell j hlt)
      obtain ⟨u, c2⟩ : ∃ u, wr.cell? ⟨w.heap.size, j, none⟩ = some u := ⟨_, hrow.cell hlt⟩
      have f2 := hrow.frozen j
      have HCI := Lib.hid (HJ.out.below hbel (Nat.le_refl _))
      have HP := Lib.hid (show placeI b x 0 = nth (placesL a b) j by rw [placesL_nth a b j hlt, hx])
      clear hcell hx
      have HR := Lib.hid hrow
      have HBL := Lib.hid hbel
      clear hrow hbel
      go_wp2_with fail
      refine (indexOf_is _ b x _ HCI.out hbl).mono ?_
      rintro e w1 ⟨rfl, rfl⟩
      rw [HP.out]
      go_wp2
      go_roundw
      case rel =>
        refine ⟨j + 1, by omega, by go_num, (HR.out.set j _).congr (fun i hi => ?_), HBL.out.setCell (p := ⟨w.heap.size, j, none⟩) (Nat.le_refl _) _⟩
        by_cases e : i = j
        · subst e; simp
        · rcases Nat.lt_or_ge i j with h' | h'
          · simp [e, h', show i < j + 1 by omega]
          · simp [e, show ¬ i < j by omega, show ¬ i < j + 1 by omega]
      case measure => simp [intOf]; omega
    · obtain rfl : j = a.length := by omega
      have hin : inI64 (placesL a b) := fun y hy => by
        obtain ⟨x, -, rfl⟩ := List.mem_map.1 hy
        have := place_bd b x 0 hbl (by omega)
        rw [List.drop_zero] at this
        omega
      have HL := Lib.hid (placesL_length a b)
      have HRR := Lib.hid (show OwnI w.heap.size wr (.slice (some ⟨w.heap.size, 0, none⟩) a.length a.length) (placesL a b) by
        have := OwnI.of_row (l := placesL a b) (by rw [HL.out]; exact hrow) (fun i hi => by rw [HL.out] at hi; simp [hi]) (Nat.le_refl _) hin (by rw [HL.out]; unfold maxLen; omega)
        rwa [HL.out] at this)
      have HBL := Lib.hid hbel
      clear hrow hbel hin
      go_wp2
      go_ret
      exact ⟨_, rfl, HRR.out, HBL.out⟩

/-- The places; none where one of the two is no permutation, or they are not equally long. -/
def PomOk (a b : List Int) : Prop := PermP a ∧ PermP b ∧ a.length = b.length

instance (a b : List Int) : Decidable (PomOk a b) := by unfold PomOk; infer_instance

def pomL (a b : List Int) : List Int := if PomOk a b then placesL a b else []

theorem pomL_length (a b : List Int) : (pomL a b).length ≤ a.length := by
  unfold pomL
  split
  · rw [placesL_length]; exact Nat.le_refl _
  · simp

def GetsIB (B : Nat) (w : World) (l : List Int) (b : Bool) (e : Ending) (w' : World) : Prop := ∃ v, e = .returned (.tuple #[v, .bool b]) ∧ OwnI B w' v l ∧ Below w.heap.size w w'

set_option maxHeartbeats 1000000 in
theorem implPom (va vb : Value) (a b : List Int) (w : World) (ha : Ints w va a) (hb : Ints w vb b) (hal : a.length ≤ 1048576) (hbl : b.length ≤ 1048576) :
    Calls Try.prog 83 #[va, vb] w (GetsIB w.heap.size w (pomL a b) (decide (PomOk a b))) := by
  obtain ⟨aa, cap, rfl, -, -⟩ := ha.form
  obtain ⟨ab, capb, rfl, -, -⟩ := hb.form
  have HI := Lib.hid ha
  have HJ := Lib.hid hb
  clear ha hb
  have HNO : Hid (¬ PomOk a b → pomL a b = [] ∧ decide (PomOk a b) = false) := fun h => ⟨by unfold pomL; rw [if_neg h], decide_eq_false h⟩
  go_enter Try.func83, Try.ntmps83
  go_wp2_with fail
  refine (implPerm _ a _ HI.out hal).mono ?_
  rintro e w1 ⟨r, rfl, hr, hb⟩
  have HB := Lib.hid hb
  have HR := Lib.hid hr
  clear hb hr
  cases r with
  | false =>
    have HN := Lib.hid (HNO.out fun h => absurd (HR.out.2 h.1) (by decide))
    go_wp2
    go_ret2
    exact ⟨_, by rw [HN.out.2]; rfl, by rw [HN.out.1]; exact OwnI.nil0 _ _, HB.out⟩
  | true =>
    have H1 := Lib.hid (HR.out.1 (by first | rfl | trivial))
    go_wp2_with fail
    refine (implPerm _ b _ (HJ.out.on HB.out) hbl).mono ?_
    rintro e w2 ⟨r, rfl, hr, hb⟩
    have HB2 := Lib.hid (HB.out.trans (hb.mono HB.out.size))
    have HR2 := Lib.hid hr
    clear hb hr HR
    cases r with
    | false =>
      have HN := Lib.hid (HNO.out fun h => absurd (HR2.out.2 h.2.1) (by decide))
      go_wp2
      go_ret2
      exact ⟨_, by rw [HN.out.2]; rfl, by rw [HN.out.1]; exact OwnI.nil0 _ _, HB2.out⟩
    | true =>
      have H2 := Lib.hid (HR2.out.1 (by first | rfl | trivial))
      by_cases hl : a.length = b.length
      · have d0 : ((a.length : Int) != (b.length : Int)) = false := by rw [bne_eq_false_iff_eq]; omega
        have d1 : (a.length != b.length) = false := by rw [bne_eq_false_iff_eq]; exact hl
        have HO := Lib.hid (show PomOk a b from ⟨H1.out, H2.out, hl⟩)
        clear hl
        go_wp2_with fail
        refine (placesIn_is _ _ b a _ (HJ.out.on HB2.out) (HI.out.on HB2.out) hbl hal).mono ?_
        rintro e w3 ⟨v3, rfl, ho, hb⟩
        have HB3 := Lib.hid (HB2.out.trans (hb.mono HB2.out.size))
        have HO3 := Lib.hid (ho.mono (B' := w.heap.size) HB2.out.size)
        clear ho hb
        go_wp2
        go_ret2
        exact ⟨_, by rw [decide_eq_true HO.out]; rfl, by unfold pomL; rw [if_pos HO.out]; exact HO3.out, HB3.out⟩
      · have d0 : ((a.length : Int) != (b.length : Int)) = true := by rw [bne_iff_ne]; omega
        have d1 : (a.length != b.length) = true := by rw [bne_iff_ne]; exact hl
        have HN := Lib.hid (HNO.out fun h => hl h.2.2)
        clear hl
        go_wp2
        go_ret2
        exact ⟨_, by rw [HN.out.2]; rfl, by rw [HN.out.1]; exact OwnI.nil0 _ _, HB2.out⟩

end Go.Proofs.Ytbmpljclplddeab
