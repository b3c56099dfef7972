/- CutOf: the largest border of the beginnings of an order. -/
import Derived.Test.YtpifgmmmmhenmacO1
import Derived.Test.YtpifgmmmmhenmacM1
import Derived.Test.YtpifgmmmmhenmacV7
import Derived.Test.YtpifgmmmmhenmacT1
import Derived.Test.YtpifgmmmmhenmacH3
namespace Go.Proofs.Ytpifgmmmmhenmac
set_option linter.unusedVariables false
set_option linter.unusedSimpArgs false
open Go.RowKit

/-- Those of a set that have neighbours outside of it. -/
def bordB (l : List Int) (X v : Nat) : Bool := X.testBit v && decide (rowN l v &&& X ≠ rowN l v)

def bordN (l : List Int) (X k : Nat) : Nat := ((List.range k).filter (bordB l X)).length

theorem bord_succ (l : List Int) (X k : Nat) : bordN l X (k + 1) = bordN l X k + (if bordB l X k then 1 else 0) := by
  unfold bordN
  rw [List.range_succ, List.filter_append, List.length_append]
  cases h : bordB l X k <;> simp [h]

theorem bord_le (l : List Int) (X k : Nat) : bordN l X k ≤ k := by
  unfold bordN
  have := List.length_filter_le (bordB l X) (List.range k)
  simpa using this

theorem popU_nat (X : Nat) (h : X < 128) : popU (X : Int) = (((List.range 7).filter fun v => X.testBit v).length : Int) := by
  unfold popU
  rw [if_pos (by omega), listU_nat, List.length_map]
  rfl

theorem bord_pop {n : Int} {l : List Int} (hg : IsG n l) {X : Nat} (hX : X < 2 ^ l.length) : popU (((aroundN (rowN l) (2 ^ l.length - 1 - X)) &&& X : Nat) : Int) = ((bordN l X l.length : Nat) : Int) := by
  have h7 : l.length ≤ 7 := by have := hg.2.1; have := hg.2.2.1; omega
  have h128 := two_le _ h7
  have hlt : (aroundN (rowN l) (2 ^ l.length - 1 - X)) &&& X < 128 := Nat.lt_of_le_of_lt Nat.and_le_right (by omega)
  rw [popU_nat _ hlt]
  have hM : 2 ^ l.length - 1 < 128 := by omega
  have hs : Sub X (2 ^ l.length - 1) := sub_full _ h7 X hX
  have key : ∀ v, v < 7 → ((aroundN (rowN l) (2 ^ l.length - 1 - X)) &&& X).testBit v = (decide (v < l.length) && bordB l X v) := fun v hv => by
    rw [Nat.testBit_and]
    cases hb : X.testBit v with
    | false => simp [bordB, hb]
    | true =>
      have hvl : v < l.length := bit_lt hX hb
      simp only [Bool.and_true, bordB, hb, Bool.true_and, decide_eq_true hvl]
      rw [Bool.eq_iff_iff, aroundN_bit, decide_eq_true_iff]
      constructor
      · rintro (h | ⟨u, hu, h1, h2⟩)
        · have := (minus_bit hM hs v).1 h
          rw [hb] at this
          exact absurd this.2 (by decide)
        · intro he
          obtain ⟨h3, h4⟩ := (minus_bit hM hs u).1 h1
          have hul : u < l.length := by rw [Nat.testBit_two_pow_sub_one] at h3; simpa using h3
          have h5 : (rowN l v).testBit u = true := by rw [hg.row_sym v u hvl hul]; exact h2
          have h6 : (rowN l v &&& X).testBit u = true := by rw [he]; exact h5
          rw [Nat.testBit_and, h4] at h6
          simp at h6
      · intro hne
        right
        have hex : ∃ u, (rowN l v).testBit u = true ∧ X.testBit u = false := by
          refine Classical.byContradiction fun hn => hne ?_
          refine eq_of_bits fun i => ?_
          rw [Nat.testBit_and]
          refine ⟨fun h => (Bool.and_eq_true_iff.1 h).1, fun h => ?_⟩
          cases hx : X.testBit i with
          | true => rw [h]; rfl
          | false => exact absurd ⟨i, h, hx⟩ hn
        obtain ⟨u, h1, h2⟩ := hex
        have hul : u < l.length := bit_lt (hg.row_lt v hvl).1 h1
        exact ⟨u, by omega, (minus_bit hM hs u).2 ⟨by rw [Nat.testBit_two_pow_sub_one]; simpa using hul, h2⟩, by rw [← hg.row_sym v u hvl hul]; exact h1⟩
  unfold bordN
  have e1 : ((List.range 7).filter fun v => ((aroundN (rowN l) (2 ^ l.length - 1 - X)) &&& X).testBit v) = (List.range 7).filter fun v => (decide (v < l.length) && bordB l X v) :=
    List.filter_congr fun v hv => key v (by simpa using hv)
  rw [e1]
  obtain ⟨d, hd⟩ : ∃ d, 7 = l.length + d := ⟨7 - l.length, by omega⟩
  rw [hd, List.range_add, List.filter_append]
  have e2 : ((List.range d).map (l.length + ·)).filter (fun v => decide (v < l.length) && bordB l X v) = [] := by
    rw [List.filter_eq_nil_iff]
    intro x hx
    obtain ⟨y, -, rfl⟩ := List.mem_map.1 hx
    have hn : ¬ (l.length + y < l.length) := by omega
    simp [hn]
  have e3 : (List.range l.length).filter (fun v => decide (v < l.length) && bordB l X v) = (List.range l.length).filter (bordB l X) :=
    List.filter_congr fun v hv => by
      have : v < l.length := by simpa using hv
      simp [this]
  rw [e2, e3, List.append_nil]

set_option maxHeartbeats 2000000 in
set_option maxRecDepth 100000 in
theorem border_is (n : Int) (v : Value) (l : List Int) (X : Nat) (w : World) (h : Ints w v l) (hg : IsG n l) (hX : X < 2 ^ l.length) :
    Calls Try.prog 43 #[.agg #[.int .i64 n, v], .int .i64 X] w (SaysN ((bordN l X l.length : Nat) : Int) w) := by
  obtain ⟨a, cap, rfl, -, -⟩ := h.form
  have HA := argG' (T := 37) (n := n) h
  clear h
  obtain ⟨w1, hw1⟩ : ∃ w1, w1 = w.alloc (.cells #[.int .i64 n, .slice a l.length cap] 37) := ⟨_, rfl⟩
  have HX : Hid (∀ X : Since w1, ArgG 37 w n (.slice a l.length cap) l X.val) := fun X => HA.out _ (since_below hw1 (by simp) X)
  have hx0 : ∀ X : Since w1, X.val.cell? ⟨w.heap.size, 0, none⟩ = some (.int .i64 n) := fun X => (HX.out X).1
  have hx1 : ∀ X : Since w1, X.val.cell? ⟨w.heap.size, 1, none⟩ = some (.slice a l.length cap) := fun X => (HX.out X).2.1
  have h7 : l.length ≤ 7 := by have := hg.2.1; have := hg.2.2.1; omega
  have h128 := two_le _ h7
  have hX7 : X < 128 := by omega
  have hnl : n.toNat = l.length := by have := hg.2.2.1; omega
  obtain ⟨F, hF⟩ : ∃ F, F = 2 ^ l.length - 1 := ⟨_, rfl⟩
  have hF7 : F < 128 := by omega
  have hXF : X ≤ F := by omega
  have hR : F - X < 2 ^ l.length := by omega
  obtain ⟨Z, hZ⟩ : ∃ Z, Z = aroundN (rowN l) (F - X) := ⟨_, rfl⟩
  have hZ7 : Z < 128 := by rw [hZ]; exact Nat.lt_of_lt_of_le (around_lt hg hR) h128
  obtain ⟨D, hD⟩ : ∃ D, D = (Z &&& X) := ⟨_, rfl⟩
  obtain ⟨p, hp⟩ : ∃ p, p = popU (D : Int) := ⟨_, rfl⟩
  have eM : (2 : Int) ^ n.toNat - 1 = (F : Int) := by
    have h5 : ((2 ^ l.length : Nat) : Int) = (2 : Int) ^ l.length := by push_cast; rfl
    have h6 : 0 < 2 ^ l.length := Nat.pow_pos (by decide)
    rw [hnl, hF]; omega
  have q1 : bits .andNot .i64 (F : Int) (X : Int) = ((F - X : Nat) : Int) := by rw [hF]; exact andNot_nat (by omega) (sub_full _ h7 X hX)
  have q2 : bits .and .i64 (Z : Int) (X : Int) = (D : Int) := by rw [hD]; exact (bits_nat Z X hZ7 hX7).1
  obtain ⟨Y, hY⟩ : ∃ Y, Y = F - X := ⟨_, rfl⟩
  rw [← hY] at q1 hR hZ
  have HC1 : Hid (∀ X : Since w1, Calls Try.prog 50 #[.agg #[.int .i64 n, .slice a l.length cap]] X.val fun e w' => e = .returned (.int .i64 F) ∧ Below X.val.heap.size X.val w') := fun X => by rw [← eM]; exact allVertices_is n _ l _ (HX.out X).2.2.1 hg.1 hg.2.1
  have HC2 : Hid (∀ X : Since w1, Calls Try.prog 63 #[.agg #[.int .i64 n, .slice a l.length cap], .int .i64 Y] X.val fun e w' => e = .returned (.int .i64 Z) ∧ Below X.val.heap.size X.val w') := fun X => by
    have := implAround n _ l (Y : Int) _ (HX.out X).2.2.1
    rw [aroundR_nat hg hR, ← hZ] at this
    exact this
  have HC3 : Hid (∀ X : Since w1, Calls Try.prog 62 #[.int .i64 D] X.val fun e w' => e = .returned (.int .i64 p) ∧ Below X.val.heap.size X.val w') := fun X => by
    rw [hp]; exact (implCountSet (D : Int) _).mono fun _ _ h => ⟨h.1, eq_below h.2⟩
  have HN := Lib.hid (show p = ((bordN l X l.length : Nat) : Int) by rw [hp, hD, hZ, hY, hF]; exact bord_pop hg hX)
  clear hF hZ hD hp hY eM hg hX hnl hR h128
  go_enter Try.func43, Try.ntmps43
  go_wp2
  rw [← hw1]
  clear hw1
  refine wp_region_since (by kernel_rfl) (by kernel_rfl) ?_
  repeat (go_big_quiet_step (first | with_reducible exact since_call (HC1.out _) | with_reducible exact since_call (HC2.out _) | with_reducible exact since_call (HC3.out _)))
  refine wpQuiet_nil ?_
  intro X
  have HW := Lib.hid (HX.out X).2.2.2.1
  clear hx0 hx1
  go_wp2
  go_ret
  exact ⟨by rw [HN.out]; rfl, HW.out⟩

set_option maxHeartbeats 2000000 in
set_option maxRecDepth 100000 in
theorem front_is (n : Int) (v : Value) (l : List Int) (X : Nat) (w : World) (h : Ints w v l) (hg : IsG n l) (hX : X < 2 ^ l.length) :
    Calls Try.prog 39 #[.agg #[.int .i64 n, v], .int .i64 X] w (SaysN ((bordN l X l.length : Nat) : Int) w) := by
  obtain ⟨a, cap, rfl, -, -⟩ := h.form
  have HA := argG' (T := 37) (n := n) h
  have HI := Lib.hid h
  have HG := Lib.hid hg
  have hn7 := hg.2.1
  have hle : (l.length : Int) ≤ n := by have := hg.2.2.1; omega
  have hge : n ≤ (l.length : Int) := by have := hg.2.2.1; omega
  have hX7 : X < 128 := Nat.lt_of_lt_of_le hX (two_le _ (by omega))
  clear h hg
  go_enter Try.func39, Try.ntmps39
  go_wp2
  go_loopw [5, 6] (fun c i wr => ∃ (k : Nat), k ≤ l.length ∧ i = .int .i64 k ∧ c = .int .i64 ((bordN l X k : Nat) : Int) ∧ Below (w.heap.size + 1) (w.alloc (.cells #[.int .i64 n, .slice a l.length cap] 37)) wr) (fun _ i _ => l.length - (intOf i).toNat)
  case atStart => exact ⟨0, by omega, rfl, rfl, Below.refl _ _⟩
  case round =>
    obtain ⟨k, hk, rfl, rfl, hbel⟩ := hrel
    have HBL := Lib.hid hbel
    clear hbel
    obtain ⟨c0, c1, -, cB, hz⟩ := HA.out _ HBL.out
    have HCB := Lib.hid cB
    clear cB
    have hbk := bord_le l X k
    by_cases hlt : k < l.length
    · have hin : (k : Int) < n := by omega
      obtain ⟨b2, off2, capl', hv, hc2, hmx2, hbk2, hcell2⟩ := HI.out.pos (by omega)
      simp only [Value.slice.injEq] at hv
      obtain ⟨rfl, -, rfl⟩ := hv
      obtain ⟨R, hR⟩ : ∃ R, R = rowN l k := ⟨_, rfl⟩
      have hR7 : R < 128 := by rw [hR]; exact Nat.lt_of_lt_of_le (HG.out.row_lt k hlt).1 (two_le _ (by omega))
      have HX : Hid (∀ Y : Since wr, ArgG 37 w n (.slice (some ⟨b2, off2, none⟩) l.length cap) l Y.val) := fun Y => HA.out _ (HBL.out.trans (Y.prop.mono hz))
      have hx0 : ∀ Y : Since wr, Y.val.cell? ⟨w.heap.size, 0, none⟩ = some (.int .i64 n) := fun Y => (HX.out Y).1
      have hx1 : ∀ Y : Since wr, Y.val.cell? ⟨w.heap.size, 1, none⟩ = some (.slice (some ⟨b2, off2, none⟩) l.length cap) := fun Y => (HX.out Y).2.1
      have hx2 : ∀ Y : Since wr, Y.val.cell? ⟨b2, off2 + k, none⟩ = some (.int .i64 (R : Int)) := fun Y => by
        rw [hR, ← (HG.out.row_lt k hlt).2]; exact ((HX.out Y).2.2.2.1.cell (p := ⟨b2, off2 + k, none⟩) hbk2).trans (hcell2 k hlt)
      obtain ⟨D, hD⟩ : ∃ D, D = (R &&& X) := ⟨_, rfl⟩
      have q1 : bits .and .i64 (R : Int) (X : Int) = (D : Int) := by rw [hD]; exact (bits_nat R X hR7 hX7).1
      obtain ⟨P, hP⟩ : ∃ P : Nat, P = 2 ^ k := ⟨_, rfl⟩
      have eP : (2 : Int) ^ k = (P : Int) := by rw [hP]; push_cast; rfl
      have hP1 : 1 ≤ P := by rw [hP]; exact Nat.pow_pos (by decide)
      have hP7 : P < 128 := by rw [hP]; exact Nat.pow_lt_pow_right (n := 7) (by omega) (by omega)
      obtain ⟨c, hc⟩ : ∃ c, c = bordN l X k := ⟨_, rfl⟩
      have HBS := Lib.hid (bord_succ l X k)
      have HCC := Lib.hid hc
      rw [← hc] at hbk ⊢
      have g1 : IntKind.i64.wrap ((c : Int) + 1) = ((c + 1 : Nat) : Int) := (IntWalk.i64_in _ (by omega)).trans (by omega)
      unfold maxLen at hmx2
      clear hcell2 hc hP
      cases hb : X.testBit k with
      | false =>
        have e1 : bits .and .i64 ((X : Int) / (P : Int)) 1 = 0 := by
          rw [← eP]
          have := and_one_bit (X : Int) k
          rw [this]
          rcases bitAt_two (X : Int) k with h | h
          · exact h
          · rw [(bitAt_nat X k).1 h] at hb; cases hb
        have e2 : bits .and .i64 ((X : Int) / 2 ^ k) 1 = 0 := by rw [eP]; exact e1
        have HT := Lib.hid (show bordN l X (k + 1) = c by rw [HBS.out, HCC.out]; simp [bordB, hb])
        clear hb
        go_wp2
        refine wp_region_since (by kernel_rfl) (by kernel_rfl) ?_
        repeat (go_big_quiet_step (fail))
        refine wpQuiet_nil ?_
        intro Y
        have HB3 := Lib.hid (HBL.out.trans (Y.prop.mono hz))
        clear hx0 hx1 hx2 e1 e2 eP q1 c0 c1
        go_wp2
        go_roundw
        case rel => exact ⟨k + 1, by omega, by go_num, by rw [HT.out], HB3.out⟩
        case measure => simp [intOf]; omega
      | true =>
        have e1 : bits .and .i64 ((X : Int) / (P : Int)) 1 = 1 := by
          rw [← eP, and_one_bit (X : Int) k]
          exact (bitAt_nat X k).2 hb
        have e2 : bits .and .i64 ((X : Int) / 2 ^ k) 1 = 1 := by rw [eP]; exact e1
        by_cases hd : D = R
        · have d0 : ((D : Int) != (R : Int)) = false := by rw [bne_eq_false_iff_eq]; omega
          have HT := Lib.hid (show bordN l X (k + 1) = c by rw [HBS.out, HCC.out]; simp [bordB, hb, ← hR, ← hD, hd])
          clear hb hd hD hR
          go_wp2
          refine wp_region_since (by kernel_rfl) (by kernel_rfl) ?_
          repeat (go_big_quiet_step (fail))
          refine wpQuiet_nil ?_
          intro Y
          have HB3 := Lib.hid (HBL.out.trans (Y.prop.mono hz))
          clear hx0 hx1 hx2 e1 e2 eP q1 d0 c0 c1
          go_wp2
          go_roundw
          case rel => exact ⟨k + 1, by omega, by go_num, by rw [HT.out], HB3.out⟩
          case measure => simp [intOf]; omega
        · have d0 : ((D : Int) != (R : Int)) = true := by rw [bne_iff_ne]; omega
          have HT := Lib.hid (show bordN l X (k + 1) = c + 1 by rw [HBS.out, HCC.out]; simp [bordB, hb, ← hR, ← hD, hd])
          clear hb hd hD hR
          go_wp2
          refine wp_region_since (by kernel_rfl) (by kernel_rfl) ?_
          repeat (go_big_quiet_step (fail))
          refine wpQuiet_nil ?_
          intro Y
          have HB3 := Lib.hid (HBL.out.trans (Y.prop.mono hz))
          clear hx0 hx1 hx2 e1 e2 eP q1 d0 c0 c1
          go_wp2
          go_roundw
          case rel => exact ⟨k + 1, by omega, by go_num, by rw [HT.out]; first | rfl | go_num, HB3.out⟩
          case measure => simp [intOf]; omega
    · obtain rfl : k = l.length := by omega
      have d0 : decide ((l.length : Int) < n) = false := decide_eq_false (by omega)
      go_wp2
      go_ret
      exact ⟨rfl, HCB.out⟩

/-- The largest border of the beginnings that follow a set. -/
def cutL (lg : List Int) (m : Nat) : List Int → Nat → Nat → Nat
  | [], _, b => b
  | x :: t, s, b => cutL lg m t (s + 2 ^ x.toNat) (max b (bordN lg (s + 2 ^ x.toNat) m))

def cutOfR (n : Int) (lg l : List Int) : Int := if OrdP n lg l then ((cutL lg lg.length l 0 0 : Nat) : Int) else -1

theorem cutL_step (lg l : List Int) (m j s b : Nat) (h : j < l.length) : cutL lg m (l.drop j) s b = cutL lg m (l.drop (j + 1)) (s + 2 ^ kl l j) (max b (bordN lg (s + 2 ^ kl l j) m)) := by
  rw [drop_nth l j h]; rfl

end Go.Proofs.Ytpifgmmmmhenmac
