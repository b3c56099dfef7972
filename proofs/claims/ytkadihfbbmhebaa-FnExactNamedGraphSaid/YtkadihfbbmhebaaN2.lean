/- Walks over the specification's NamedGraph. -/
import Derived.Test.YtkadihfbbmhebaaN1
import Derived.Test.YtkadihfbbmhebaaG6
namespace Go.Proofs.Ytkadihfbbmhebaa
open Go.RowKit

def doneL (v m i j : Nat) : Bool := decide ((i < j ∧ (i < v ∨ i = v ∧ j < m)) ∨ (j < i ∧ (j < v ∨ j = v ∧ i < m)))

def partL (r : Nat → Nat → Bool) (v m i j : Nat) : Bool := symR r i j && doneL v m i j

theorem partL_comm (r : Nat → Nat → Bool) (v m i j : Nat) : partL r v m i j = partL r v m j i := by
  unfold partL doneL
  rw [symR_comm]
  congr 1
  exact decide_eq_decide.2 (by omega)

theorem partL_self (r : Nat → Nat → Bool) (v m i : Nat) : partL r v m i i = false := by simp [partL, symR_self]

theorem partL_open (r : Nat → Nat → Bool) (v m : Nat) (hv : v < m) : partL r v m v m = false := by
  unfold partL doneL
  rw [decide_eq_false (by omega)]
  simp

theorem L_no (n : Nat) (r : Nat → Nat → Bool) (v m : Nat) (hv : v < m) (hr : r v m = false) : adjL n (partL r v m) = adjL n (partL r v (m + 1)) := by
  refine adjL_congr _ _ _ fun i hi j hj => ?_
  unfold partL
  by_cases h : (i = v ∧ j = m) ∨ (i = m ∧ j = v)
  · have : symR r i j = false := by
      rcases h with ⟨rfl, rfl⟩ | ⟨rfl, rfl⟩
      · unfold symR; rw [if_pos hv]; exact hr
      · rw [symR_comm]; unfold symR; rw [if_pos hv]; exact hr
    rw [this]; rfl
  · congr 1
    unfold doneL
    exact decide_eq_decide.2 (by omega)

theorem L_yes (n : Nat) (r : Nat → Nat → Bool) (v m : Nat) (hv : v < m) (hm : m < n) (hr : r v m = true) : flipE (adjL n (partL r v m)) v m = adjL n (partL r v (m + 1)) := by
  rw [adjL_flip n _ v m (by omega) hm (by omega) (partL_open r v m hv) (by rw [partL_comm]; exact partL_open r v m hv)]
  refine adjL_congr _ _ _ fun i hi j hj => ?_
  unfold partL
  by_cases h : (i = v ∧ j = m) ∨ (i = m ∧ j = v)
  · have h1 : symR r i j = true := by
      rcases h with ⟨rfl, rfl⟩ | ⟨rfl, rfl⟩
      · unfold symR; rw [if_pos hv]; exact hr
      · rw [symR_comm]; unfold symR; rw [if_pos hv]; exact hr
    have h2 : doneL v (m + 1) i j = true := by unfold doneL; exact decide_eq_true (by omega)
    rw [h1, h2]
    rcases h with ⟨rfl, rfl⟩ | ⟨rfl, rfl⟩ <;> simp
  · have h1 : doneL v (m + 1) i j = doneL v m i j := by
      unfold doneL
      exact decide_eq_decide.2 (by omega)
    have h2 : (i == v && j == m) = false := by simp; omega
    have h3 : (i == m && j == v) = false := by simp; omega
    rw [h1, h2, h3]
    simp

theorem L_next (n : Nat) (r : Nat → Nat → Bool) (v : Nat) : adjL n (partL r v n) = adjL n (partL r (v + 1) (v + 1 + 1)) := by
  refine adjL_congr _ _ _ fun i hi j hj => ?_
  unfold partL
  congr 1
  unfold doneL
  exact decide_eq_decide.2 (by omega)

theorem L_none (n : Nat) (r : Nat → Nat → Bool) (i j : Nat) : partL r 0 1 i j = false := by
  unfold partL doneL
  rw [decide_eq_false (by omega)]
  simp

theorem L_all (n : Nat) (r : Nat → Nat → Bool) : adjL n (partL r n (n + 1)) = adjL n (symR r) := by
  refine adjL_congr _ _ _ fun i hi j hj => ?_
  unfold partL
  by_cases h : i = j
  · subst h; rw [symR_self]; rfl
  · rw [show doneL n (n + 1) i j = true by unfold doneL; exact decide_eq_true (by omega)]
    simp

theorem L_ok (n : Nat) (r : Nat → Nat → Bool) (v m : Nat) (h1 : 1 ≤ n) (h7 : n ≤ 7) (hv : v < m) (hm : m < n) : AddOk n (adjL n (partL r v m)) v m := by
  refine ⟨isG_adjL n _ h1 h7 (fun i _ => partL_self r v m i) (fun i j _ _ => partL_comm r v m i j), by omega, by omega, by omega, ?_⟩
  rw [Int.toNat_natCast, Int.toNat_natCast]
  unfold edB
  rw [adjL_bit n _ v m (by omega) hm, partL_open r v m hv]
  rfl

theorem gset (w : World) (q j : Nat) (u : Value) : w.grownBy (w.setCell ⟨q, j, none⟩ u) (some q) :=
  ⟨rfl, rfl, rfl, by simp, fun k _ hk => Below.heap_setCell w ⟨q, j, none⟩ u k (fun e => hk (by rw [e]))⟩

/-- A graph in a box that may be written. -/
def BoxF (q : Nat) (n : Int) (v : Value) (w : World) : Prop := BoxG q n v w ∧ w.frozen? ⟨q, 0, none⟩ = false ∧ w.frozen? ⟨q, 1, none⟩ = false

theorem BoxF.keep {q : Nat} {n : Int} {v : Value} {w w' : World} {row : Option Nat} (h : BoxF q n v w) (hg : w.grownBy w' row) (hr : row ≠ some q) : BoxF q n v w' := by
  obtain ⟨-, hf⟩ := gcell hg
  exact ⟨h.1.keep hg hr, by rw [hf q 0 h.1.2.2 (fun e => hr e.symm)]; exact h.2.1, by rw [hf q 1 h.1.2.2 (fun e => hr e.symm)]; exact h.2.2⟩

theorem BoxF.set {q : Nat} {n m : Int} {u v : Value} {w : World} (h : BoxF q n u w) : BoxF q m v ((w.setCell ⟨q, 0, none⟩ (.int .i64 m)).setCell ⟨q, 1, none⟩ v) := by
  refine ⟨⟨?_, ?_, by simpa using h.1.2.2⟩, by simpa using h.2.1, by simpa using h.2.2⟩
  · rw [World.cell?_setCell_other _ _ _ _ (by simp)]
    exact World.cell?_setCell_same _ _ _ h.1.1
  · refine World.cell?_setCell_same _ _ _ (u := u) ?_
    rw [World.cell?_setCell_other _ _ _ _ (by simp)]
    exact h.1.2.1

/-- The graph that is being made, in its box. -/
def Cur (w : World) (n : Nat) (L : List Int) (u : Value) (wr : World) : Prop :=
  OwnI (w.heap.size + 1) wr u L ∧ BoxF (w.heap.size + 2) n u wr ∧ Blank w.heap.size wr ∧ Below w.heap.size w wr ∧ ∀ k, u.ownBlock = some k → k ≠ w.heap.size + 2

theorem Cur.next {w wr w5 : World} {n : Nat} {L L' : List Int} {u v5 : Value} (h : Cur w n L u wr) (ho : OwnI wr.heap.size w5 v5 L') (hb : Below wr.heap.size wr w5) :
    Cur w n L' v5 ((w5.setCell ⟨w.heap.size + 2, 0, none⟩ (.int .i64 n)).setCell ⟨w.heap.size + 2, 1, none⟩ v5) := by
  obtain ⟨-, h2, h3, h4, -⟩ := h
  have hq := h2.1.2.2
  refine ⟨((ho.setBelow (a := ⟨w.heap.size + 2, 0, none⟩) hq _).setBelow (a := ⟨w.heap.size + 2, 1, none⟩) hq _).mono (by omega), (h2.keep (below_grown hb) (by simp)).set, ?_, ?_, fun k hk => ?_⟩
  · exact ((h3.keep (below_grown hb) (by simp)).keep (gset _ _ _ _) (by simp)).keep (gset _ _ _ _) (by simp)
  · exact ((h4.trans (hb.mono h4.size)).setCell (p := ⟨w.heap.size + 2, 0, none⟩) (by simp) _).setCell (p := ⟨w.heap.size + 2, 1, none⟩) (by simp) _
  · have := (ho.lt k hk).1
    omega

theorem Cur.init (w : World) (n : Nat) (r : Nat → Nat → Bool) (hn : n ≤ 7) :
    Cur w n (adjL n (partL r 0 1)) (.slice (some ⟨w.heap.size + 1, 0, none⟩) n n) (((w.alloc (.cells #[.int .i64 0, .slice none 0 0] 27)).alloc (.cells (madeCells #[.int .i64 0] n) 3)).alloc (.cells #[.int .i64 n, .slice (some ⟨w.heap.size + 1, 0, none⟩) n n] 27)) := by
  have hz : ∀ i, i < (adjL n (partL r 0 1)).length → (fun _ : Nat => Value.int .i64 0) i = .int .i64 (nth (adjL n (partL r 0 1)) i) := fun i hi => by
    rw [adjL_length] at hi
    rw [adjL_nth n _ i hi, rowV_congr _ _ n (fun j _ => L_none n r i j), rowV_none]
  have hrow := World.rowIs_made (w.alloc (.cells #[.int .i64 0, .slice none 0 0] 27)) (.int .i64 0) (adjL n (partL r 0 1)).length 3
  have hown := OwnI.of_row (B := w.heap.size + 1) (l := adjL n (partL r 0 1)) hrow hz (by simp) (adjL_in n _ hn) (by rw [adjL_length]; unfold maxLen; omega)
  simp only [adjL_length, World.size_alloc] at hown
  refine ⟨hown.alloc _, ⟨?_, by simp [go_sem], by simp [go_sem]⟩, ?_, ?_, fun k hk => ?_⟩
  · have := BoxG.new ((w.alloc (.cells #[.int .i64 0, .slice none 0 0] 27)).alloc (.cells (madeCells #[.int .i64 0] n) 3)) 27 n (.slice (some ⟨w.heap.size + 1, 0, none⟩) n n) ⟨_, _, _, rfl⟩
    simpa using this
  · exact ((Blank.new w _).keep (grown_alloc _ _ none) (by simp)).keep (grown_alloc _ _ none) (by simp)
  · exact (((Below.refl _ w).alloc (Nat.le_refl _) _).alloc (by simp) _).alloc (by simp <;> omega) _
  · have : w.heap.size + 1 = k := by simpa [Value.ownBlock] using hk
    omega

set_option maxHeartbeats 8000000 in
set_option maxRecDepth 100000 in
theorem specNamed0 (a0 : ByteArray) (n : Nat) (w : World) (h1 : 1 ≤ n) (hn : n ≤ 7) (hs : a0.toList = nmL 0) :
    Calls Try.prog 33 #[.string a0, .int .i64 n] w (GetsGB w.heap.size w n (adjL n (symR (namR 0 n))) true) := by
  have hmk := fun W : World => run_make_row' (P := Try.prog) 22 3 (.int .i64 0) 8 Try.underlying22 infoInt rfl .i64 .i64 n (by omega) (by omega) W
  have e0 : (a0.toList == [112, 97, 116, 104]) = true := by rw [hs]; rfl
  have f0 : (a0.toList != [112, 97, 116, 104]) = false := by rw [hs]; rfl
  have e1 : (a0.toList == [99, 121, 99, 108, 101]) = false := by rw [hs]; rfl
  have f1 : (a0.toList != [99, 121, 99, 108, 101]) = true := by rw [hs]; rfl
  have e2 : (a0.toList == [99, 111, 109, 112, 108, 101, 116, 101]) = false := by rw [hs]; rfl
  have f2 : (a0.toList != [99, 111, 109, 112, 108, 101, 116, 101]) = true := by rw [hs]; rfl
  have e3 : (a0.toList == [115, 116, 97, 114]) = false := by rw [hs]; rfl
  have f3 : (a0.toList != [115, 116, 97, 114]) = true := by rw [hs]; rfl
  have e4 : (a0.toList == [119, 104, 101, 101, 108]) = false := by rw [hs]; rfl
  have f4 : (a0.toList != [119, 104, 101, 101, 108]) = true := by rw [hs]; rfl
  have e5 : (a0.toList == [101, 109, 112, 116, 121]) = false := by rw [hs]; rfl
  have f5 : (a0.toList != [101, 109, 112, 116, 121]) = true := by rw [hs]; rfl
  clear hs
  go_enter Try.func33, Try.ntmps33
  go_wp2_with fail
  refine (l1In_yes' _ _ _ _ (show (1 : Int) ≤ n by omega) (show (n : Int) ≤ 7 by omega)).mono ?_
  rintro e w1 ⟨rfl, rfl⟩
  go_wp2
  clear hmk
  go_loopw [7] (fun i wr => ∃ (v : Nat) (u : Value), v ≤ n ∧ i = .int .i64 v ∧ Cur w n (adjL n (partL (namR 0 n) v (v + 1))) u wr) (fun i _ => n - (intOf i).toNat)
  case atStart => exact ⟨0, _, by omega, rfl, Cur.init w n _ hn⟩
  case round =>
    obtain ⟨i, u, hi, rfl, hC⟩ := hrel
    by_cases hin : i < n
    · have HC0 := Lib.hid hC
      clear hC
      go_wp2
      go_loopw [8] (fun x wr => ∃ (m : Nat) (u : Value), i < m ∧ m ≤ n ∧ x = .int .i64 m ∧ Cur w n (adjL n (partL (namR 0 n) i m)) u wr) (fun x _ => n - (intOf x).toNat)
      case atStart => exact ⟨i + 1, u, by omega, by omega, by go_num, HC0.out⟩
      case round =>
        clear HC0
        obtain ⟨j, u, hij, hjn, rfl, hC⟩ := hrel
        have HC := Lib.hid hC
        clear hC
        by_cases hj7 : j < n
        · obtain ⟨⟨c0, c1, cz⟩, c2, c3⟩ := HC.out.2.1
          by_cases a1 : j = i + 1
          · have a1b : ((j : Int) == (i : Int) + 1) = true := by simp; omega
            have a1h := Lib.hid a1
            clear a1
            have hr : namR 0 n i j = true := by have a1q := a1h.out; simp [namR, a1q] <;> omega
            have HY := Lib.hid (L_yes n (namR 0 n) i j hij hj7 hr)
            have HOK := Lib.hid (L_ok n (namR 0 n) i j h1 hn hij hj7)
            clear hr
            go_wp2_with fail
            refine (specAddEdge_yes n _ (adjL n (partL (namR 0 n) i j)) i j _ HC.out.1.ints (by rw [adjL_length]; omega) HC.out.1.nilform HOK.out).mono ?_
            rintro e w5 ⟨v5, rfl, ho, hb⟩
            rw [Int.toNat_natCast, Int.toNat_natCast, HY.out] at ho
            obtain ⟨a5, cap5, rfl, -, -⟩ := ho.ints.form
            have HC5 := Lib.hid (HC.out.next ho hb)
            obtain ⟨⟨g0, g1, gz⟩, g2, g3⟩ := HC.out.2.1.keep (below_grown hb) (by simp)
            clear ho hb c0 c1 cz c2 c3
            go_wp2
            go_roundw
            case rel => exact ⟨j + 1, _, by omega, by omega, by go_num, HC5.out⟩
            case measure => simp [intOf]; omega
          · have a1b : ((j : Int) == (i : Int) + 1) = false := by simp; omega
            have hr : namR 0 n i j = false := by simp [namR, a1] <;> omega
            have HY := Lib.hid (L_no n (namR 0 n) i j hij hr)
            clear hr
            go_wp2
            go_roundw
            case rel => exact ⟨j + 1, u, by omega, by omega, by go_num, by rw [← HY.out]; exact HC.out⟩
            case measure => simp [intOf]; omega
        · obtain rfl : j = n := by omega
          have HY := Lib.hid (L_next j (namR 0 j) i)
          go_wp2
          go_roundw
          case rel => exact ⟨i + 1, u, by omega, by go_num, by rw [← HY.out]; exact HC.out⟩
          case measure => simp [intOf]; omega
    · obtain rfl : i = n := by omega
      rw [L_all] at hC
      obtain ⟨hown, ⟨⟨c0, c1, cz⟩, c2, c3⟩, ⟨b0, b1, b2, b3, b4⟩, hbel, -⟩ := hC
      obtain ⟨au, capu, rfl, -, -⟩ := hown.ints.form
      have HO := Lib.hid hown
      have HB := Lib.hid hbel
      clear hown hbel
      by_cases hi1 : i = 1
      · have q1 : ((i : Int) == 1) = true := by simp; omega
        have HI1 := Lib.hid hi1
        clear hi1
        go_wp2
        refine bodyPost_ret (v := .tuple #[.agg #[.int .i64 i, .slice au _ capu], .bool true]) (by simp [results, Try.results33, go_sem, b0, b1, b2, b3]; rfl) rfl ⟨_, rfl, ?_, ?_⟩
        · exact ((HO.out.setBelow (a := ⟨w.heap.size, 0, none⟩) (by simp) _).setBelow (a := ⟨w.heap.size, 1, none⟩) (by simp) _).mono (by omega)
        · exact (HB.out.setCell (p := ⟨w.heap.size, 0, none⟩) (by simp) _).setCell (p := ⟨w.heap.size, 1, none⟩) (by simp) _
      · have q1 : ((i : Int) == 1) = false := by simp; omega
        go_wp2
        refine bodyPost_ret (v := .tuple #[.agg #[.int .i64 i, .slice au _ capu], .bool true]) (by simp [results, Try.results33, go_sem, b0, b1, b2, b3]; rfl) rfl ⟨_, rfl, ?_, ?_⟩
        · exact ((HO.out.setBelow (a := ⟨w.heap.size, 0, none⟩) (by simp) _).setBelow (a := ⟨w.heap.size, 1, none⟩) (by simp) _).mono (by omega)
        · exact (HB.out.setCell (p := ⟨w.heap.size, 0, none⟩) (by simp) _).setCell (p := ⟨w.heap.size, 1, none⟩) (by simp) _

set_option maxHeartbeats 8000000 in
set_option maxRecDepth 100000 in
theorem specNamed1 (a0 : ByteArray) (n : Nat) (w : World) (h1 : 1 ≤ n) (hn : n ≤ 7) (hs : a0.toList = nmL 1) :
    Calls Try.prog 33 #[.string a0, .int .i64 n] w (GetsGB w.heap.size w n (adjL n (symR (namR 1 n))) true) := by
  have hmk := fun W : World => run_make_row' (P := Try.prog) 22 3 (.int .i64 0) 8 Try.underlying22 infoInt rfl .i64 .i64 n (by omega) (by omega) W
  have e0 : (a0.toList == [112, 97, 116, 104]) = false := by rw [hs]; rfl
  have f0 : (a0.toList != [112, 97, 116, 104]) = true := by rw [hs]; rfl
  have e1 : (a0.toList == [99, 121, 99, 108, 101]) = true := by rw [hs]; rfl
  have f1 : (a0.toList != [99, 121, 99, 108, 101]) = false := by rw [hs]; rfl
  have e2 : (a0.toList == [99, 111, 109, 112, 108, 101, 116, 101]) = false := by rw [hs]; rfl
  have f2 : (a0.toList != [99, 111, 109, 112, 108, 101, 116, 101]) = true := by rw [hs]; rfl
  have e3 : (a0.toList == [115, 116, 97, 114]) = false := by rw [hs]; rfl
  have f3 : (a0.toList != [115, 116, 97, 114]) = true := by rw [hs]; rfl
  have e4 : (a0.toList == [119, 104, 101, 101, 108]) = false := by rw [hs]; rfl
  have f4 : (a0.toList != [119, 104, 101, 101, 108]) = true := by rw [hs]; rfl
  have e5 : (a0.toList == [101, 109, 112, 116, 121]) = false := by rw [hs]; rfl
  have f5 : (a0.toList != [101, 109, 112, 116, 121]) = true := by rw [hs]; rfl
  clear hs
  go_enter Try.func33, Try.ntmps33
  go_wp2_with fail
  refine (l1In_yes' _ _ _ _ (show (1 : Int) ≤ n by omega) (show (n : Int) ≤ 7 by omega)).mono ?_
  rintro e w1 ⟨rfl, rfl⟩
  go_wp2
  clear hmk
  go_loopw [7] (fun i wr => ∃ (v : Nat) (u : Value), v ≤ n ∧ i = .int .i64 v ∧ Cur w n (adjL n (partL (namR 1 n) v (v + 1))) u wr) (fun i _ => n - (intOf i).toNat)
  case atStart => exact ⟨0, _, by omega, rfl, Cur.init w n _ hn⟩
  case round =>
    obtain ⟨i, u, hi, rfl, hC⟩ := hrel
    by_cases hin : i < n
    · have HC0 := Lib.hid hC
      clear hC
      go_wp2
      go_loopw [8] (fun x wr => ∃ (m : Nat) (u : Value), i < m ∧ m ≤ n ∧ x = .int .i64 m ∧ Cur w n (adjL n (partL (namR 1 n) i m)) u wr) (fun x _ => n - (intOf x).toNat)
      case atStart => exact ⟨i + 1, u, by omega, by omega, by go_num, HC0.out⟩
      case round =>
        clear HC0
        obtain ⟨j, u, hij, hjn, rfl, hC⟩ := hrel
        have HC := Lib.hid hC
        clear hC
        by_cases hj7 : j < n
        · obtain ⟨⟨c0, c1, cz⟩, c2, c3⟩ := HC.out.2.1
          by_cases a1 : j = i + 1
          · have a1b : ((j : Int) == (i : Int) + 1) = true := by simp; omega
            have a1h := Lib.hid a1
            clear a1
            have hr : namR 1 n i j = true := by have a1q := a1h.out; simp [namR, a1q] <;> omega
            have HY := Lib.hid (L_yes n (namR 1 n) i j hij hj7 hr)
            have HOK := Lib.hid (L_ok n (namR 1 n) i j h1 hn hij hj7)
            clear hr
            go_wp2_with fail
            refine (specAddEdge_yes n _ (adjL n (partL (namR 1 n) i j)) i j _ HC.out.1.ints (by rw [adjL_length]; omega) HC.out.1.nilform HOK.out).mono ?_
            rintro e w5 ⟨v5, rfl, ho, hb⟩
            rw [Int.toNat_natCast, Int.toNat_natCast, HY.out] at ho
            obtain ⟨a5, cap5, rfl, -, -⟩ := ho.ints.form
            have HC5 := Lib.hid (HC.out.next ho hb)
            obtain ⟨⟨g0, g1, gz⟩, g2, g3⟩ := HC.out.2.1.keep (below_grown hb) (by simp)
            clear ho hb c0 c1 cz c2 c3
            go_wp2
            go_roundw
            case rel => exact ⟨j + 1, _, by omega, by omega, by go_num, HC5.out⟩
            case measure => simp [intOf]; omega
          · have a1b : ((j : Int) == (i : Int) + 1) = false := by simp; omega
            by_cases a0 : i = 0
            · have a0b : ((i : Int) == 0) = true := by simp; omega
              have a0h := Lib.hid a0
              clear a0
              by_cases a2 : j + 1 = n
              · have a2b : ((j : Int) == (n : Int) - 1) = true := by simp; omega
                have a2h := Lib.hid a2
                clear a2
                have hr : namR 1 n i j = true := by have a0q := a0h.out; have a2q := a2h.out; simp [namR, a1, a0q, a2q] <;> omega
                have HY := Lib.hid (L_yes n (namR 1 n) i j hij hj7 hr)
                have HOK := Lib.hid (L_ok n (namR 1 n) i j h1 hn hij hj7)
                clear hr
                go_wp2_with fail
                refine (specAddEdge_yes n _ (adjL n (partL (namR 1 n) i j)) i j _ HC.out.1.ints (by rw [adjL_length]; omega) HC.out.1.nilform HOK.out).mono ?_
                rintro e w5 ⟨v5, rfl, ho, hb⟩
                rw [Int.toNat_natCast, Int.toNat_natCast, HY.out] at ho
                obtain ⟨a5, cap5, rfl, -, -⟩ := ho.ints.form
                have HC5 := Lib.hid (HC.out.next ho hb)
                obtain ⟨⟨g0, g1, gz⟩, g2, g3⟩ := HC.out.2.1.keep (below_grown hb) (by simp)
                clear ho hb c0 c1 cz c2 c3
                go_wp2
                go_roundw
                case rel => exact ⟨j + 1, _, by omega, by omega, by go_num, HC5.out⟩
                case measure => simp [intOf]; omega
              · have a2b : ((j : Int) == (n : Int) - 1) = false := by simp; omega
                have hr : namR 1 n i j = false := by have a0q := a0h.out; simp [namR, a1, a0q, a2] <;> omega
                have HY := Lib.hid (L_no n (namR 1 n) i j hij hr)
                clear hr
                go_wp2
                go_roundw
                case rel => exact ⟨j + 1, u, by omega, by omega, by go_num, by rw [← HY.out]; exact HC.out⟩
                case measure => simp [intOf]; omega
            · have a0b : ((i : Int) == 0) = false := by simp; omega
              have hr : namR 1 n i j = false := by simp [namR, a1, a0] <;> omega
              have HY := Lib.hid (L_no n (namR 1 n) i j hij hr)
              clear hr
              go_wp2
              go_roundw
              case rel => exact ⟨j + 1, u, by omega, by omega, by go_num, by rw [← HY.out]; exact HC.out⟩
              case measure => simp [intOf]; omega
        · obtain rfl : j = n := by omega
          have HY := Lib.hid (L_next j (namR 1 j) i)
          go_wp2
          go_roundw
          case rel => exact ⟨i + 1, u, by omega, by go_num, by rw [← HY.out]; exact HC.out⟩
          case measure => simp [intOf]; omega
    · obtain rfl : i = n := by omega
      rw [L_all] at hC
      obtain ⟨hown, ⟨⟨c0, c1, cz⟩, c2, c3⟩, ⟨b0, b1, b2, b3, b4⟩, hbel, -⟩ := hC
      obtain ⟨au, capu, rfl, -, -⟩ := hown.ints.form
      have HO := Lib.hid hown
      have HB := Lib.hid hbel
      clear hown hbel
      by_cases hi1 : i = 1
      · have q1 : ((i : Int) == 1) = true := by simp; omega
        have HI1 := Lib.hid hi1
        clear hi1
        go_wp2
        refine bodyPost_ret (v := .tuple #[.agg #[.int .i64 i, .slice au _ capu], .bool true]) (by simp [results, Try.results33, go_sem, b0, b1, b2, b3]; rfl) rfl ⟨_, rfl, ?_, ?_⟩
        · exact ((HO.out.setBelow (a := ⟨w.heap.size, 0, none⟩) (by simp) _).setBelow (a := ⟨w.heap.size, 1, none⟩) (by simp) _).mono (by omega)
        · exact (HB.out.setCell (p := ⟨w.heap.size, 0, none⟩) (by simp) _).setCell (p := ⟨w.heap.size, 1, none⟩) (by simp) _
      · have q1 : ((i : Int) == 1) = false := by simp; omega
        go_wp2
        refine bodyPost_ret (v := .tuple #[.agg #[.int .i64 i, .slice au _ capu], .bool true]) (by simp [results, Try.results33, go_sem, b0, b1, b2, b3]; rfl) rfl ⟨_, rfl, ?_, ?_⟩
        · exact ((HO.out.setBelow (a := ⟨w.heap.size, 0, none⟩) (by simp) _).setBelow (a := ⟨w.heap.size, 1, none⟩) (by simp) _).mono (by omega)
        · exact (HB.out.setCell (p := ⟨w.heap.size, 0, none⟩) (by simp) _).setCell (p := ⟨w.heap.size, 1, none⟩) (by simp) _

set_option maxHeartbeats 8000000 in
set_option maxRecDepth 100000 in
theorem specNamed2 (a0 : ByteArray) (n : Nat) (w : World) (h1 : 1 ≤ n) (hn : n ≤ 7) (hs : a0.toList = nmL 2) :
    Calls Try.prog 33 #[.string a0, .int .i64 n] w (GetsGB w.heap.size w n (adjL n (symR (namR 2 n))) true) := by
  have hmk := fun W : World => run_make_row' (P := Try.prog) 22 3 (.int .i64 0) 8 Try.underlying22 infoInt rfl .i64 .i64 n (by omega) (by omega) W
  have e0 : (a0.toList == [112, 97, 116, 104]) = false := by rw [hs]; rfl
  have f0 : (a0.toList != [112, 97, 116, 104]) = true := by rw [hs]; rfl
  have e1 : (a0.toList == [99, 121, 99, 108, 101]) = false := by rw [hs]; rfl
  have f1 : (a0.toList != [99, 121, 99, 108, 101]) = true := by rw [hs]; rfl
  have e2 : (a0.toList == [99, 111, 109, 112, 108, 101, 116, 101]) = true := by rw [hs]; rfl
  have f2 : (a0.toList != [99, 111, 109, 112, 108, 101, 116, 101]) = false := by rw [hs]; rfl
  have e3 : (a0.toList == [115, 116, 97, 114]) = false := by rw [hs]; rfl
  have f3 : (a0.toList != [115, 116, 97, 114]) = true := by rw [hs]; rfl
  have e4 : (a0.toList == [119, 104, 101, 101, 108]) = false := by rw [hs]; rfl
  have f4 : (a0.toList != [119, 104, 101, 101, 108]) = true := by rw [hs]; rfl
  have e5 : (a0.toList == [101, 109, 112, 116, 121]) = false := by rw [hs]; rfl
  have f5 : (a0.toList != [101, 109, 112, 116, 121]) = true := by rw [hs]; rfl
  clear hs
  go_enter Try.func33, Try.ntmps33
  go_wp2_with fail
  refine (l1In_yes' _ _ _ _ (show (1 : Int) ≤ n by omega) (show (n : Int) ≤ 7 by omega)).mono ?_
  rintro e w1 ⟨rfl, rfl⟩
  go_wp2
  clear hmk
  go_loopw [7] (fun i wr => ∃ (v : Nat) (u : Value), v ≤ n ∧ i = .int .i64 v ∧ Cur w n (adjL n (partL (namR 2 n) v (v + 1))) u wr) (fun i _ => n - (intOf i).toNat)
  case atStart => exact ⟨0, _, by omega, rfl, Cur.init w n _ hn⟩
  case round =>
    obtain ⟨i, u, hi, rfl, hC⟩ := hrel
    by_cases hin : i < n
    · have HC0 := Lib.hid hC
      clear hC
      go_wp2
      go_loopw [8] (fun x wr => ∃ (m : Nat) (u : Value), i < m ∧ m ≤ n ∧ x = .int .i64 m ∧ Cur w n (adjL n (partL (namR 2 n) i m)) u wr) (fun x _ => n - (intOf x).toNat)
      case atStart => exact ⟨i + 1, u, by omega, by omega, by go_num, HC0.out⟩
      case round =>
        clear HC0
        obtain ⟨j, u, hij, hjn, rfl, hC⟩ := hrel
        have HC := Lib.hid hC
        clear hC
        by_cases hj7 : j < n
        · obtain ⟨⟨c0, c1, cz⟩, c2, c3⟩ := HC.out.2.1
          have hr : namR 2 n i j = true := by simp [namR] <;> omega
          have HY := Lib.hid (L_yes n (namR 2 n) i j hij hj7 hr)
          have HOK := Lib.hid (L_ok n (namR 2 n) i j h1 hn hij hj7)
          clear hr
          go_wp2_with fail
          refine (specAddEdge_yes n _ (adjL n (partL (namR 2 n) i j)) i j _ HC.out.1.ints (by rw [adjL_length]; omega) HC.out.1.nilform HOK.out).mono ?_
          rintro e w5 ⟨v5, rfl, ho, hb⟩
          rw [Int.toNat_natCast, Int.toNat_natCast, HY.out] at ho
          obtain ⟨a5, cap5, rfl, -, -⟩ := ho.ints.form
          have HC5 := Lib.hid (HC.out.next ho hb)
          obtain ⟨⟨g0, g1, gz⟩, g2, g3⟩ := HC.out.2.1.keep (below_grown hb) (by simp)
          clear ho hb c0 c1 cz c2 c3
          go_wp2
          go_roundw
          case rel => exact ⟨j + 1, _, by omega, by omega, by go_num, HC5.out⟩
          case measure => simp [intOf]; omega
        · obtain rfl : j = n := by omega
          have HY := Lib.hid (L_next j (namR 2 j) i)
          go_wp2
          go_roundw
          case rel => exact ⟨i + 1, u, by omega, by go_num, by rw [← HY.out]; exact HC.out⟩
          case measure => simp [intOf]; omega
    · obtain rfl : i = n := by omega
      rw [L_all] at hC
      obtain ⟨hown, ⟨⟨c0, c1, cz⟩, c2, c3⟩, ⟨b0, b1, b2, b3, b4⟩, hbel, -⟩ := hC
      obtain ⟨au, capu, rfl, -, -⟩ := hown.ints.form
      have HO := Lib.hid hown
      have HB := Lib.hid hbel
      clear hown hbel
      by_cases hi1 : i = 1
      · have q1 : ((i : Int) == 1) = true := by simp; omega
        have HI1 := Lib.hid hi1
        clear hi1
        go_wp2
        refine bodyPost_ret (v := .tuple #[.agg #[.int .i64 i, .slice au _ capu], .bool true]) (by simp [results, Try.results33, go_sem, b0, b1, b2, b3]; rfl) rfl ⟨_, rfl, ?_, ?_⟩
        · exact ((HO.out.setBelow (a := ⟨w.heap.size, 0, none⟩) (by simp) _).setBelow (a := ⟨w.heap.size, 1, none⟩) (by simp) _).mono (by omega)
        · exact (HB.out.setCell (p := ⟨w.heap.size, 0, none⟩) (by simp) _).setCell (p := ⟨w.heap.size, 1, none⟩) (by simp) _
      · have q1 : ((i : Int) == 1) = false := by simp; omega
        go_wp2
        refine bodyPost_ret (v := .tuple #[.agg #[.int .i64 i, .slice au _ capu], .bool true]) (by simp [results, Try.results33, go_sem, b0, b1, b2, b3]; rfl) rfl ⟨_, rfl, ?_, ?_⟩
        · exact ((HO.out.setBelow (a := ⟨w.heap.size, 0, none⟩) (by simp) _).setBelow (a := ⟨w.heap.size, 1, none⟩) (by simp) _).mono (by omega)
        · exact (HB.out.setCell (p := ⟨w.heap.size, 0, none⟩) (by simp) _).setCell (p := ⟨w.heap.size, 1, none⟩) (by simp) _

set_option maxHeartbeats 8000000 in
set_option maxRecDepth 100000 in
theorem specNamed3 (a0 : ByteArray) (n : Nat) (w : World) (h1 : 1 ≤ n) (hn : n ≤ 7) (hs : a0.toList = nmL 3) :
    Calls Try.prog 33 #[.string a0, .int .i64 n] w (GetsGB w.heap.size w n (adjL n (symR (namR 3 n))) true) := by
  have hmk := fun W : World => run_make_row' (P := Try.prog) 22 3 (.int .i64 0) 8 Try.underlying22 infoInt rfl .i64 .i64 n (by omega) (by omega) W
  have e0 : (a0.toList == [112, 97, 116, 104]) = false := by rw [hs]; rfl
  have f0 : (a0.toList != [112, 97, 116, 104]) = true := by rw [hs]; rfl
  have e1 : (a0.toList == [99, 121, 99, 108, 101]) = false := by rw [hs]; rfl
  have f1 : (a0.toList != [99, 121, 99, 108, 101]) = true := by rw [hs]; rfl
  have e2 : (a0.toList == [99, 111, 109, 112, 108, 101, 116, 101]) = false := by rw [hs]; rfl
  have f2 : (a0.toList != [99, 111, 109, 112, 108, 101, 116, 101]) = true := by rw [hs]; rfl
  have e3 : (a0.toList == [115, 116, 97, 114]) = true := by rw [hs]; rfl
  have f3 : (a0.toList != [115, 116, 97, 114]) = false := by rw [hs]; rfl
  have e4 : (a0.toList == [119, 104, 101, 101, 108]) = false := by rw [hs]; rfl
  have f4 : (a0.toList != [119, 104, 101, 101, 108]) = true := by rw [hs]; rfl
  have e5 : (a0.toList == [101, 109, 112, 116, 121]) = false := by rw [hs]; rfl
  have f5 : (a0.toList != [101, 109, 112, 116, 121]) = true := by rw [hs]; rfl
  clear hs
  go_enter Try.func33, Try.ntmps33
  go_wp2_with fail
  refine (l1In_yes' _ _ _ _ (show (1 : Int) ≤ n by omega) (show (n : Int) ≤ 7 by omega)).mono ?_
  rintro e w1 ⟨rfl, rfl⟩
  go_wp2
  clear hmk
  go_loopw [7] (fun i wr => ∃ (v : Nat) (u : Value), v ≤ n ∧ i = .int .i64 v ∧ Cur w n (adjL n (partL (namR 3 n) v (v + 1))) u wr) (fun i _ => n - (intOf i).toNat)
  case atStart => exact ⟨0, _, by omega, rfl, Cur.init w n _ hn⟩
  case round =>
    obtain ⟨i, u, hi, rfl, hC⟩ := hrel
    by_cases hin : i < n
    · have HC0 := Lib.hid hC
      clear hC
      go_wp2
      go_loopw [8] (fun x wr => ∃ (m : Nat) (u : Value), i < m ∧ m ≤ n ∧ x = .int .i64 m ∧ Cur w n (adjL n (partL (namR 3 n) i m)) u wr) (fun x _ => n - (intOf x).toNat)
      case atStart => exact ⟨i + 1, u, by omega, by omega, by go_num, HC0.out⟩
      case round =>
        clear HC0
        obtain ⟨j, u, hij, hjn, rfl, hC⟩ := hrel
        have HC := Lib.hid hC
        clear hC
        by_cases hj7 : j < n
        · obtain ⟨⟨c0, c1, cz⟩, c2, c3⟩ := HC.out.2.1
          by_cases a0 : i = 0
          · have a0b : ((i : Int) == 0) = true := by simp; omega
            have a0h := Lib.hid a0
            clear a0
            have hr : namR 3 n i j = true := by have a0q := a0h.out; simp [namR, a0q] <;> omega
            have HY := Lib.hid (L_yes n (namR 3 n) i j hij hj7 hr)
            have HOK := Lib.hid (L_ok n (namR 3 n) i j h1 hn hij hj7)
            clear hr
            go_wp2_with fail
            refine (specAddEdge_yes n _ (adjL n (partL (namR 3 n) i j)) i j _ HC.out.1.ints (by rw [adjL_length]; omega) HC.out.1.nilform HOK.out).mono ?_
            rintro e w5 ⟨v5, rfl, ho, hb⟩
            rw [Int.toNat_natCast, Int.toNat_natCast, HY.out] at ho
            obtain ⟨a5, cap5, rfl, -, -⟩ := ho.ints.form
            have HC5 := Lib.hid (HC.out.next ho hb)
            obtain ⟨⟨g0, g1, gz⟩, g2, g3⟩ := HC.out.2.1.keep (below_grown hb) (by simp)
            clear ho hb c0 c1 cz c2 c3
            go_wp2
            go_roundw
            case rel => exact ⟨j + 1, _, by omega, by omega, by go_num, HC5.out⟩
            case measure => simp [intOf]; omega
          · have a0b : ((i : Int) == 0) = false := by simp; omega
            have hr : namR 3 n i j = false := by simp [namR, a0] <;> omega
            have HY := Lib.hid (L_no n (namR 3 n) i j hij hr)
            clear hr
            go_wp2
            go_roundw
            case rel => exact ⟨j + 1, u, by omega, by omega, by go_num, by rw [← HY.out]; exact HC.out⟩
            case measure => simp [intOf]; omega
        · obtain rfl : j = n := by omega
          have HY := Lib.hid (L_next j (namR 3 j) i)
          go_wp2
          go_roundw
          case rel => exact ⟨i + 1, u, by omega, by go_num, by rw [← HY.out]; exact HC.out⟩
          case measure => simp [intOf]; omega
    · obtain rfl : i = n := by omega
      rw [L_all] at hC
      obtain ⟨hown, ⟨⟨c0, c1, cz⟩, c2, c3⟩, ⟨b0, b1, b2, b3, b4⟩, hbel, -⟩ := hC
      obtain ⟨au, capu, rfl, -, -⟩ := hown.ints.form
      have HO := Lib.hid hown
      have HB := Lib.hid hbel
      clear hown hbel
      by_cases hi1 : i = 1
      · have q1 : ((i : Int) == 1) = true := by simp; omega
        have HI1 := Lib.hid hi1
        clear hi1
        go_wp2
        refine bodyPost_ret (v := .tuple #[.agg #[.int .i64 i, .slice au _ capu], .bool true]) (by simp [results, Try.results33, go_sem, b0, b1, b2, b3]; rfl) rfl ⟨_, rfl, ?_, ?_⟩
        · exact ((HO.out.setBelow (a := ⟨w.heap.size, 0, none⟩) (by simp) _).setBelow (a := ⟨w.heap.size, 1, none⟩) (by simp) _).mono (by omega)
        · exact (HB.out.setCell (p := ⟨w.heap.size, 0, none⟩) (by simp) _).setCell (p := ⟨w.heap.size, 1, none⟩) (by simp) _
      · have q1 : ((i : Int) == 1) = false := by simp; omega
        go_wp2
        refine bodyPost_ret (v := .tuple #[.agg #[.int .i64 i, .slice au _ capu], .bool true]) (by simp [results, Try.results33, go_sem, b0, b1, b2, b3]; rfl) rfl ⟨_, rfl, ?_, ?_⟩
        · exact ((HO.out.setBelow (a := ⟨w.heap.size, 0, none⟩) (by simp) _).setBelow (a := ⟨w.heap.size, 1, none⟩) (by simp) _).mono (by omega)
        · exact (HB.out.setCell (p := ⟨w.heap.size, 0, none⟩) (by simp) _).setCell (p := ⟨w.heap.size, 1, none⟩) (by simp) _

set_option maxHeartbeats 8000000 in
set_option maxRecDepth 100000 in
theorem specNamed4 (a0 : ByteArray) (n : Nat) (w : World) (h1 : 1 ≤ n) (hn : n ≤ 7) (hs : a0.toList = nmL 4) :
    Calls Try.prog 33 #[.string a0, .int .i64 n] w (GetsGB w.heap.size w n (adjL n (symR (namR 4 n))) true) := by
  have hmk := fun W : World => run_make_row' (P := Try.prog) 22 3 (.int .i64 0) 8 Try.underlying22 infoInt rfl .i64 .i64 n (by omega) (by omega) W
  have e0 : (a0.toList == [112, 97, 116, 104]) = false := by rw [hs]; rfl
  have f0 : (a0.toList != [112, 97, 116, 104]) = true := by rw [hs]; rfl
  have e1 : (a0.toList == [99, 121, 99, 108, 101]) = false := by rw [hs]; rfl
  have f1 : (a0.toList != [99, 121, 99, 108, 101]) = true := by rw [hs]; rfl
  have e2 : (a0.toList == [99, 111, 109, 112, 108, 101, 116, 101]) = false := by rw [hs]; rfl
  have f2 : (a0.toList != [99, 111, 109, 112, 108, 101, 116, 101]) = true := by rw [hs]; rfl
  have e3 : (a0.toList == [115, 116, 97, 114]) = false := by rw [hs]; rfl
  have f3 : (a0.toList != [115, 116, 97, 114]) = true := by rw [hs]; rfl
  have e4 : (a0.toList == [119, 104, 101, 101, 108]) = true := by rw [hs]; rfl
  have f4 : (a0.toList != [119, 104, 101, 101, 108]) = false := by rw [hs]; rfl
  have e5 : (a0.toList == [101, 109, 112, 116, 121]) = false := by rw [hs]; rfl
  have f5 : (a0.toList != [101, 109, 112, 116, 121]) = true := by rw [hs]; rfl
  clear hs
  go_enter Try.func33, Try.ntmps33
  go_wp2_with fail
  refine (l1In_yes' _ _ _ _ (show (1 : Int) ≤ n by omega) (show (n : Int) ≤ 7 by omega)).mono ?_
  rintro e w1 ⟨rfl, rfl⟩
  go_wp2
  clear hmk
  go_loopw [7] (fun i wr => ∃ (v : Nat) (u : Value), v ≤ n ∧ i = .int .i64 v ∧ Cur w n (adjL n (partL (namR 4 n) v (v + 1))) u wr) (fun i _ => n - (intOf i).toNat)
  case atStart => exact ⟨0, _, by omega, rfl, Cur.init w n _ hn⟩
  case round =>
    obtain ⟨i, u, hi, rfl, hC⟩ := hrel
    by_cases hin : i < n
    · have HC0 := Lib.hid hC
      clear hC
      go_wp2
      go_loopw [8] (fun x wr => ∃ (m : Nat) (u : Value), i < m ∧ m ≤ n ∧ x = .int .i64 m ∧ Cur w n (adjL n (partL (namR 4 n) i m)) u wr) (fun x _ => n - (intOf x).toNat)
      case atStart => exact ⟨i + 1, u, by omega, by omega, by go_num, HC0.out⟩
      case round =>
        clear HC0
        obtain ⟨j, u, hij, hjn, rfl, hC⟩ := hrel
        have HC := Lib.hid hC
        clear hC
        by_cases hj7 : j < n
        · obtain ⟨⟨c0, c1, cz⟩, c2, c3⟩ := HC.out.2.1
          by_cases a0 : i = 0
          · have a0b : ((i : Int) == 0) = true := by simp; omega
            have a0h := Lib.hid a0
            clear a0
            have hr : namR 4 n i j = true := by have a0q := a0h.out; simp [namR, a0q] <;> omega
            have HY := Lib.hid (L_yes n (namR 4 n) i j hij hj7 hr)
            have HOK := Lib.hid (L_ok n (namR 4 n) i j h1 hn hij hj7)
            clear hr
            go_wp2_with fail
            refine (specAddEdge_yes n _ (adjL n (partL (namR 4 n) i j)) i j _ HC.out.1.ints (by rw [adjL_length]; omega) HC.out.1.nilform HOK.out).mono ?_
            rintro e w5 ⟨v5, rfl, ho, hb⟩
            rw [Int.toNat_natCast, Int.toNat_natCast, HY.out] at ho
            obtain ⟨a5, cap5, rfl, -, -⟩ := ho.ints.form
            have HC5 := Lib.hid (HC.out.next ho hb)
            obtain ⟨⟨g0, g1, gz⟩, g2, g3⟩ := HC.out.2.1.keep (below_grown hb) (by simp)
            clear ho hb c0 c1 cz c2 c3
            go_wp2
            go_roundw
            case rel => exact ⟨j + 1, _, by omega, by omega, by go_num, HC5.out⟩
            case measure => simp [intOf]; omega
          · have a0b : ((i : Int) == 0) = false := by simp; omega
            by_cases a1 : j = i + 1
            · have a1b : ((j : Int) == (i : Int) + 1) = true := by simp; omega
              have a1h := Lib.hid a1
              clear a1
              have hr : namR 4 n i j = true := by have a1q := a1h.out; simp [namR, a0, a1q] <;> omega
              have HY := Lib.hid (L_yes n (namR 4 n) i j hij hj7 hr)
              have HOK := Lib.hid (L_ok n (namR 4 n) i j h1 hn hij hj7)
              clear hr
              go_wp2_with fail
              refine (specAddEdge_yes n _ (adjL n (partL (namR 4 n) i j)) i j _ HC.out.1.ints (by rw [adjL_length]; omega) HC.out.1.nilform HOK.out).mono ?_
              rintro e w5 ⟨v5, rfl, ho, hb⟩
              rw [Int.toNat_natCast, Int.toNat_natCast, HY.out] at ho
              obtain ⟨a5, cap5, rfl, -, -⟩ := ho.ints.form
              have HC5 := Lib.hid (HC.out.next ho hb)
              obtain ⟨⟨g0, g1, gz⟩, g2, g3⟩ := HC.out.2.1.keep (below_grown hb) (by simp)
              clear ho hb c0 c1 cz c2 c3
              go_wp2
              go_roundw
              case rel => exact ⟨j + 1, _, by omega, by omega, by go_num, HC5.out⟩
              case measure => simp [intOf]; omega
            · have a1b : ((j : Int) == (i : Int) + 1) = false := by simp; omega
              by_cases a3 : i = 1
              · have a3b : ((i : Int) == 1) = true := by simp; omega
                have a3h := Lib.hid a3
                clear a3
                by_cases a2 : j + 1 = n
                · have a2b : ((j : Int) == (n : Int) - 1) = true := by simp; omega
                  have a2h := Lib.hid a2
                  clear a2
                  have hr : namR 4 n i j = true := by have a3q := a3h.out; have a2q := a2h.out; simp [namR, a0, a1, a3q, a2q] <;> omega
                  have HY := Lib.hid (L_yes n (namR 4 n) i j hij hj7 hr)
                  have HOK := Lib.hid (L_ok n (namR 4 n) i j h1 hn hij hj7)
                  clear hr
                  go_wp2_with fail
                  refine (specAddEdge_yes n _ (adjL n (partL (namR 4 n) i j)) i j _ HC.out.1.ints (by rw [adjL_length]; omega) HC.out.1.nilform HOK.out).mono ?_
                  rintro e w5 ⟨v5, rfl, ho, hb⟩
                  rw [Int.toNat_natCast, Int.toNat_natCast, HY.out] at ho
                  obtain ⟨a5, cap5, rfl, -, -⟩ := ho.ints.form
                  have HC5 := Lib.hid (HC.out.next ho hb)
                  obtain ⟨⟨g0, g1, gz⟩, g2, g3⟩ := HC.out.2.1.keep (below_grown hb) (by simp)
                  clear ho hb c0 c1 cz c2 c3
                  go_wp2
                  go_roundw
                  case rel => exact ⟨j + 1, _, by omega, by omega, by go_num, HC5.out⟩
                  case measure => simp [intOf]; omega
                · have a2b : ((j : Int) == (n : Int) - 1) = false := by simp; omega
                  have hr : namR 4 n i j = false := by have a3q := a3h.out; simp [namR, a0, a1, a3q, a2] <;> omega
                  have HY := Lib.hid (L_no n (namR 4 n) i j hij hr)
                  clear hr
                  go_wp2
                  go_roundw
                  case rel => exact ⟨j + 1, u, by omega, by omega, by go_num, by rw [← HY.out]; exact HC.out⟩
                  case measure => simp [intOf]; omega
              · have a3b : ((i : Int) == 1) = false := by simp; omega
                have hr : namR 4 n i j = false := by simp [namR, a0, a1, a3] <;> omega
                have HY := Lib.hid (L_no n (namR 4 n) i j hij hr)
                clear hr
                go_wp2
                go_roundw
                case rel => exact ⟨j + 1, u, by omega, by omega, by go_num, by rw [← HY.out]; exact HC.out⟩
                case measure => simp [intOf]; omega
        · obtain rfl : j = n := by omega
          have HY := Lib.hid (L_next j (namR 4 j) i)
          go_wp2
          go_roundw
          case rel => exact ⟨i + 1, u, by omega, by go_num, by rw [← HY.out]; exact HC.out⟩
          case measure => simp [intOf]; omega
    · obtain rfl : i = n := by omega
      rw [L_all] at hC
      obtain ⟨hown, ⟨⟨c0, c1, cz⟩, c2, c3⟩, ⟨b0, b1, b2, b3, b4⟩, hbel, -⟩ := hC
      obtain ⟨au, capu, rfl, -, -⟩ := hown.ints.form
      have HO := Lib.hid hown
      have HB := Lib.hid hbel
      clear hown hbel
      by_cases hi1 : i = 1
      · have q1 : ((i : Int) == 1) = true := by simp; omega
        have HI1 := Lib.hid hi1
        clear hi1
        go_wp2
        refine bodyPost_ret (v := .tuple #[.agg #[.int .i64 i, .slice au _ capu], .bool true]) (by simp [results, Try.results33, go_sem, b0, b1, b2, b3]; rfl) rfl ⟨_, rfl, ?_, ?_⟩
        · exact ((HO.out.setBelow (a := ⟨w.heap.size, 0, none⟩) (by simp) _).setBelow (a := ⟨w.heap.size, 1, none⟩) (by simp) _).mono (by omega)
        · exact (HB.out.setCell (p := ⟨w.heap.size, 0, none⟩) (by simp) _).setCell (p := ⟨w.heap.size, 1, none⟩) (by simp) _
      · have q1 : ((i : Int) == 1) = false := by simp; omega
        go_wp2
        refine bodyPost_ret (v := .tuple #[.agg #[.int .i64 i, .slice au _ capu], .bool true]) (by simp [results, Try.results33, go_sem, b0, b1, b2, b3]; rfl) rfl ⟨_, rfl, ?_, ?_⟩
        · exact ((HO.out.setBelow (a := ⟨w.heap.size, 0, none⟩) (by simp) _).setBelow (a := ⟨w.heap.size, 1, none⟩) (by simp) _).mono (by omega)
        · exact (HB.out.setCell (p := ⟨w.heap.size, 0, none⟩) (by simp) _).setCell (p := ⟨w.heap.size, 1, none⟩) (by simp) _

set_option maxHeartbeats 8000000 in
set_option maxRecDepth 100000 in
theorem specNamed5 (a0 : ByteArray) (n : Nat) (w : World) (h1 : 1 ≤ n) (hn : n ≤ 7) (hs : a0.toList = nmL 5) :
    Calls Try.prog 33 #[.string a0, .int .i64 n] w (GetsGB w.heap.size w n (adjL n (symR (namR 5 n))) true) := by
  have hmk := fun W : World => run_make_row' (P := Try.prog) 22 3 (.int .i64 0) 8 Try.underlying22 infoInt rfl .i64 .i64 n (by omega) (by omega) W
  have e0 : (a0.toList == [112, 97, 116, 104]) = false := by rw [hs]; rfl
  have f0 : (a0.toList != [112, 97, 116, 104]) = true := by rw [hs]; rfl
  have e1 : (a0.toList == [99, 121, 99, 108, 101]) = false := by rw [hs]; rfl
  have f1 : (a0.toList != [99, 121, 99, 108, 101]) = true := by rw [hs]; rfl
  have e2 : (a0.toList == [99, 111, 109, 112, 108, 101, 116, 101]) = false := by rw [hs]; rfl
  have f2 : (a0.toList != [99, 111, 109, 112, 108, 101, 116, 101]) = true := by rw [hs]; rfl
  have e3 : (a0.toList == [115, 116, 97, 114]) = false := by rw [hs]; rfl
  have f3 : (a0.toList != [115, 116, 97, 114]) = true := by rw [hs]; rfl
  have e4 : (a0.toList == [119, 104, 101, 101, 108]) = false := by rw [hs]; rfl
  have f4 : (a0.toList != [119, 104, 101, 101, 108]) = true := by rw [hs]; rfl
  have e5 : (a0.toList == [101, 109, 112, 116, 121]) = true := by rw [hs]; rfl
  have f5 : (a0.toList != [101, 109, 112, 116, 121]) = false := by rw [hs]; rfl
  clear hs
  go_enter Try.func33, Try.ntmps33
  go_wp2_with fail
  refine (l1In_yes' _ _ _ _ (show (1 : Int) ≤ n by omega) (show (n : Int) ≤ 7 by omega)).mono ?_
  rintro e w1 ⟨rfl, rfl⟩
  go_wp2
  clear hmk
  go_loopw [7] (fun i wr => ∃ (v : Nat) (u : Value), v ≤ n ∧ i = .int .i64 v ∧ Cur w n (adjL n (partL (namR 5 n) v (v + 1))) u wr) (fun i _ => n - (intOf i).toNat)
  case atStart => exact ⟨0, _, by omega, rfl, Cur.init w n _ hn⟩
  case round =>
    obtain ⟨i, u, hi, rfl, hC⟩ := hrel
    by_cases hin : i < n
    · have HC0 := Lib.hid hC
      clear hC
      go_wp2
      go_loopw [8] (fun x wr => ∃ (m : Nat) (u : Value), i < m ∧ m ≤ n ∧ x = .int .i64 m ∧ Cur w n (adjL n (partL (namR 5 n) i m)) u wr) (fun x _ => n - (intOf x).toNat)
      case atStart => exact ⟨i + 1, u, by omega, by omega, by go_num, HC0.out⟩
      case round =>
        clear HC0
        obtain ⟨j, u, hij, hjn, rfl, hC⟩ := hrel
        have HC := Lib.hid hC
        clear hC
        by_cases hj7 : j < n
        · obtain ⟨⟨c0, c1, cz⟩, c2, c3⟩ := HC.out.2.1
          have hr : namR 5 n i j = false := by simp [namR] <;> omega
          have HY := Lib.hid (L_no n (namR 5 n) i j hij hr)
          clear hr
          go_wp2
          go_roundw
          case rel => exact ⟨j + 1, u, by omega, by omega, by go_num, by rw [← HY.out]; exact HC.out⟩
          case measure => simp [intOf]; omega
        · obtain rfl : j = n := by omega
          have HY := Lib.hid (L_next j (namR 5 j) i)
          go_wp2
          go_roundw
          case rel => exact ⟨i + 1, u, by omega, by go_num, by rw [← HY.out]; exact HC.out⟩
          case measure => simp [intOf]; omega
    · obtain rfl : i = n := by omega
      rw [L_all] at hC
      obtain ⟨hown, ⟨⟨c0, c1, cz⟩, c2, c3⟩, ⟨b0, b1, b2, b3, b4⟩, hbel, -⟩ := hC
      obtain ⟨au, capu, rfl, -, -⟩ := hown.ints.form
      have HO := Lib.hid hown
      have HB := Lib.hid hbel
      clear hown hbel
      by_cases hi1 : i = 1
      · have q1 : ((i : Int) == 1) = true := by simp; omega
        have HI1 := Lib.hid hi1
        clear hi1
        go_wp2
        refine bodyPost_ret (v := .tuple #[.agg #[.int .i64 i, .slice au _ capu], .bool true]) (by simp [results, Try.results33, go_sem, b0, b1, b2, b3]; rfl) rfl ⟨_, rfl, ?_, ?_⟩
        · exact ((HO.out.setBelow (a := ⟨w.heap.size, 0, none⟩) (by simp) _).setBelow (a := ⟨w.heap.size, 1, none⟩) (by simp) _).mono (by omega)
        · exact (HB.out.setCell (p := ⟨w.heap.size, 0, none⟩) (by simp) _).setCell (p := ⟨w.heap.size, 1, none⟩) (by simp) _
      · have q1 : ((i : Int) == 1) = false := by simp; omega
        go_wp2
        refine bodyPost_ret (v := .tuple #[.agg #[.int .i64 i, .slice au _ capu], .bool true]) (by simp [results, Try.results33, go_sem, b0, b1, b2, b3]; rfl) rfl ⟨_, rfl, ?_, ?_⟩
        · exact ((HO.out.setBelow (a := ⟨w.heap.size, 0, none⟩) (by simp) _).setBelow (a := ⟨w.heap.size, 1, none⟩) (by simp) _).mono (by omega)
        · exact (HB.out.setCell (p := ⟨w.heap.size, 0, none⟩) (by simp) _).setCell (p := ⟨w.heap.size, 1, none⟩) (by simp) _

set_option maxHeartbeats 8000000 in
set_option maxRecDepth 100000 in
theorem specNamed_out (a0 : ByteArray) (x : Int) (w : World) (hx : ¬ (1 ≤ x ∧ x ≤ 7)) :
    Calls Try.prog 33 #[.string a0, .int .i64 x] w (GetsGB w.heap.size w 0 [] false) := by
  have BL := Blank.new w 27
  have BB := Lib.hid ((Below.refl _ w).alloc (Nat.le_refl _) (.cells #[.int .i64 0, .slice none 0 0] 27))
  have HN := Lib.hid hx
  obtain ⟨b0, b1, b2, b3, b4⟩ := BL
  clear hx
  go_enter Try.func33, Try.ntmps33
  go_wp2_with fail
  refine (l1In_no' _ _ _ _ HN.out).mono ?_
  rintro e w1 ⟨rfl, rfl⟩
  go_wp2
  refine bodyPost_ret (v := .tuple #[.agg #[.int .i64 0, .slice none 0 0], .bool false]) (by simp [results, Try.results33, go_sem, b0, b1, b2, b3]) rfl ⟨_, rfl, ⟨inI64_nil, World.ownsRow_nil _ _ _ _⟩, ?_⟩
  first | exact BB.out | exact (BB.out.setCell (p := ⟨w.heap.size, 0, none⟩) (by simp) _).setCell (p := ⟨w.heap.size, 1, none⟩) (by simp) _

set_option maxHeartbeats 8000000 in
set_option maxRecDepth 100000 in
theorem specNamed_none (a0 : ByteArray) (n : Nat) (w : World) (h1 : 1 ≤ n) (hn : n ≤ 7) (hs : namK a0.toList = none) :
    Calls Try.prog 33 #[.string a0, .int .i64 n] w (GetsGB w.heap.size w 0 [] false) := by
  have hmk := fun W : World => run_make_row' (P := Try.prog) 22 3 (.int .i64 0) 8 Try.underlying22 infoInt rfl .i64 .i64 n (by omega) (by omega) W
  obtain ⟨e0, e1, e2, e3, e4, e5⟩ := namK_none hs
  have e0' : (a0.toList == [112, 97, 116, 104]) = false := e0
  have f0' : (a0.toList != [112, 97, 116, 104]) = true := by show (!(a0.toList == _)) = true; rw [e0']; rfl
  have e1' : (a0.toList == [99, 121, 99, 108, 101]) = false := e1
  have f1' : (a0.toList != [99, 121, 99, 108, 101]) = true := by show (!(a0.toList == _)) = true; rw [e1']; rfl
  have e2' : (a0.toList == [99, 111, 109, 112, 108, 101, 116, 101]) = false := e2
  have f2' : (a0.toList != [99, 111, 109, 112, 108, 101, 116, 101]) = true := by show (!(a0.toList == _)) = true; rw [e2']; rfl
  have e3' : (a0.toList == [115, 116, 97, 114]) = false := e3
  have f3' : (a0.toList != [115, 116, 97, 114]) = true := by show (!(a0.toList == _)) = true; rw [e3']; rfl
  have e4' : (a0.toList == [119, 104, 101, 101, 108]) = false := e4
  have f4' : (a0.toList != [119, 104, 101, 101, 108]) = true := by show (!(a0.toList == _)) = true; rw [e4']; rfl
  have e5' : (a0.toList == [101, 109, 112, 116, 121]) = false := e5
  have f5' : (a0.toList != [101, 109, 112, 116, 121]) = true := by show (!(a0.toList == _)) = true; rw [e5']; rfl
  clear hs e0 e1 e2 e3 e4 e5
  go_enter Try.func33, Try.ntmps33
  go_wp2_with fail
  refine (l1In_yes' _ _ _ _ (show (1 : Int) ≤ n by omega) (show (n : Int) ≤ 7 by omega)).mono ?_
  rintro e w1 ⟨rfl, rfl⟩
  go_wp2
  clear hmk
  have HC0 := Lib.hid (Cur.init w n (fun _ _ => false) hn)
  obtain ⟨W3, hW3⟩ : ∃ W3, W3 = (((w.alloc (.cells #[.int .i64 0, .slice none 0 0] 27)).alloc (.cells (madeCells #[.int .i64 0] n) 3)).alloc (.cells #[.int .i64 n, .slice (some ⟨w.heap.size + 1, 0, none⟩) n n] 27)) := ⟨_, rfl⟩
  rw [← hW3] at HC0
  go_loopw [7] (fun i wr => ∃ (v : Nat), v ≤ 1 ∧ (v = 1 → n = 1) ∧ i = .int .i64 v ∧ wr = W3) (fun i _ => 1 - (intOf i).toNat)
  case atStart => exact ⟨0, by omega, by omega, rfl, hW3.symm⟩
  case round =>
    clear hW3
    obtain ⟨i, hi, hi1, rfl, rfl⟩ := hrel
    obtain ⟨hown, -, ⟨b0, b1, b2, b3, b4⟩, hbel, -⟩ := HC0.out
    have HB := Lib.hid hbel
    clear hown hbel
    by_cases hi0 : i = 0
    · have HI0 := Lib.hid hi0
      obtain rfl : i = 0 := hi0
      have d0 : decide ((0 : Int) < (n : Int)) = true := by simp; omega
      have d0' : decide (((0 : Nat) : Int) < (n : Int)) = true := by simp; omega
      clear hi hi1
      go_wp2
      go_loopw [8] (fun x wr' => x = .int .i64 1 ∧ wr' = wr) (fun _ _ => 0)
      case atStart => exact ⟨by go_num, by first | rfl | trivial⟩
      case round =>
        obtain ⟨rfl, rfl⟩ := hrel
        by_cases hn1 : n = 1
        · have d1 : decide ((1 : Int) < (n : Int)) = false := by simp; omega
          have HN1 := Lib.hid hn1
          clear hn1
          go_wp2
          go_roundw
          case rel => exact ⟨1, by omega, fun _ => HN1.out, by go_num, by first | rfl | trivial⟩
          case measure => simp [intOf]
        · have d1 : decide ((1 : Int) < (n : Int)) = true := by simp; omega
          go_wp2
          refine bodyPost_ret (v := .tuple #[.agg #[.int .i64 0, .slice none 0 0], .bool false]) (by simp [results, Try.results33, go_sem, b0, b1, b2, b3]) rfl ⟨_, rfl, ⟨inI64_nil, World.ownsRow_nil _ _ _ _⟩, ?_⟩
          exact (HB.out.setCell (p := ⟨w.heap.size, 0, none⟩) (by simp) _).setCell (p := ⟨w.heap.size, 1, none⟩) (by simp) _
    · obtain rfl : i = 1 := by omega
      obtain rfl : n = 1 := hi1 rfl
      clear hi hi1 hi0
      go_wp2
      refine bodyPost_ret (v := .tuple #[.agg #[.int .i64 0, .slice none 0 0], .bool false]) (by simp [results, Try.results33, go_sem, b0, b1, b2, b3]) rfl ⟨_, rfl, ⟨inI64_nil, World.ownsRow_nil _ _ _ _⟩, ?_⟩
      exact (HB.out.setCell (p := ⟨w.heap.size, 0, none⟩) (by simp) _).setCell (p := ⟨w.heap.size, 1, none⟩) (by simp) _

theorem specNamed (a0 : ByteArray) (x : Int) (w : World) :
    Calls Try.prog 33 #[.string a0, .int .i64 x] w (GetsGB w.heap.size w (namN a0.toList x) (namL a0.toList x) (decide (NamOk a0.toList x))) := by
  by_cases hok : NamOk a0.toList x
  · rw [show namN a0.toList x = x by unfold namN; rw [if_pos hok], show namL a0.toList x = adjL x.toNat (symR (namR ((namK a0.toList).getD 0) x.toNat)) by unfold namL; rw [if_pos hok], decide_eq_true hok]
    obtain ⟨n, rfl⟩ : ∃ n : Nat, x = n := ⟨x.toNat, by have := hok.2.1; omega⟩
    have h1 : 1 ≤ n := by have := hok.2.1; omega
    have h7 : n ≤ 7 := by have := hok.2.2; omega
    rw [Int.toNat_natCast]
    rcases namK_cases a0.toList with h | ⟨k, hk, h, hs⟩
    · have := hok.1; rw [h] at this; cases this
    · rw [h]
      show Calls _ _ _ _ (GetsGB w.heap.size w n (adjL n (symR (namR k n))) true)
      match k, hk, hs with
      | 0, _, hs => exact specNamed0 a0 n w h1 h7 hs
      | 1, _, hs => exact specNamed1 a0 n w h1 h7 hs
      | 2, _, hs => exact specNamed2 a0 n w h1 h7 hs
      | 3, _, hs => exact specNamed3 a0 n w h1 h7 hs
      | 4, _, hs => exact specNamed4 a0 n w h1 h7 hs
      | 5, _, hs => exact specNamed5 a0 n w h1 h7 hs
  · rw [show namN a0.toList x = 0 by unfold namN; rw [if_neg hok], show namL a0.toList x = [] by unfold namL; rw [if_neg hok], decide_eq_false hok]
    by_cases hx : 1 ≤ x ∧ x ≤ 7
    · obtain ⟨n, rfl⟩ : ∃ n : Nat, x = n := ⟨x.toNat, by omega⟩
      refine specNamed_none a0 n w (by omega) (by omega) ?_
      rcases namK_cases a0.toList with h | ⟨k, -, h, -⟩
      · exact h
      · exact absurd ⟨by rw [h]; rfl, by omega, by omega⟩ hok
    · exact specNamed_out a0 x w hx

end Go.Proofs.Ytkadihfbbmhebaa
