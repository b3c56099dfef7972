/- Models by intervals: intervalsOf, IsModel. -/
import Derived.Test.YtbmpljclplddeabG3
import Derived.Test.YtbmpljclplddeabBx
import Derived.Test.YtbmpljclplddeabQ
import Derived.StillTailTactics
namespace Go.Proofs.Ytbmpljclplddeab
set_option linter.unusedVariables false
set_option linter.unusedSimpArgs false
open Go.RowKit

/-- One to seven intervals of numbers from 0 to 99. -/
def IvP (l m : List Int) : Prop := (1 ≤ l.length ∧ l.length ≤ 7) ∧ m.length = l.length ∧ ∀ i, i < l.length → 0 ≤ nth l i ∧ nth l i ≤ nth m i ∧ nth m i ≤ 99

instance (l m : List Int) : Decidable (IvP l m) := by unfold IvP; exact inferInstance

/-- A row of pairs of ints. -/
def PairRow (g : Nat) (l m : List Int) (w : World) : Prop := (∀ i, i < l.length → w.cell? ⟨g, i * 2, none⟩ = some (.int .i64 (nth l i)) ∧ w.cell? ⟨g, i * 2 + 1, none⟩ = some (.int .i64 (nth m i))) ∧ g < w.heap.size

theorem PairRow.on {g : Nat} {l m : List Int} {w w' : World} (h : PairRow g l m w) (hb : Below w.heap.size w w') : PairRow g l m w' :=
  ⟨fun i hi => ⟨(hb.cell (p := ⟨g, i * 2, none⟩) h.2).trans (h.1 i hi).1, (hb.cell (p := ⟨g, i * 2 + 1, none⟩) h.2).trans (h.1 i hi).2⟩, Nat.lt_of_lt_of_le h.2 hb.size⟩

/-- The same, filled up to j. -/
def PairsTo (g j : Nat) (l m : List Int) (w : World) : Prop := (∀ i, i < l.length → ∃ a b : Int, w.cell? ⟨g, i * 2, none⟩ = some (.int .i64 a) ∧ w.cell? ⟨g, i * 2 + 1, none⟩ = some (.int .i64 b) ∧ (i < j → a = nth l i ∧ b = nth m i)) ∧ (∀ o, w.frozen? ⟨g, o, none⟩ = false) ∧ g < w.heap.size

theorem PairsTo.full {g : Nat} {l m : List Int} {w : World} (h : PairsTo g l.length l m w) : PairRow g l m w :=
  ⟨fun i hi => by
    obtain ⟨a, b, h1, h2, h3⟩ := h.1 i hi
    obtain ⟨rfl, rfl⟩ := h3 hi
    exact ⟨h1, h2⟩, h.2.2⟩

theorem PairsTo.drew {g j : Nat} {l m : List Int} {w : World} (h : PairsTo g j l m w) : PairsTo g j l m w.drew := h

theorem PairsTo.on {g j : Nat} {l m : List Int} {w w' : World} (h : PairsTo g j l m w) (hb : Below w.heap.size w w') : PairsTo g j l m w' :=
  ⟨fun i hi => by
    obtain ⟨a, b, h1, h2, h3⟩ := h.1 i hi
    exact ⟨a, b, (hb.cell (p := ⟨g, i * 2, none⟩) h.2.2).trans h1, (hb.cell (p := ⟨g, i * 2 + 1, none⟩) h.2.2).trans h2, h3⟩, fun o => (hb.frozen (p := ⟨g, o, none⟩) h.2.2).trans (h.2.1 o), Nat.lt_of_lt_of_le h.2.2 hb.size⟩

theorem PairsTo.set {g j : Nat} {l m : List Int} {w : World} (h : PairsTo g j l m w) (hj : j < l.length) :
    PairsTo g (j + 1) l m ((w.setCell ⟨g, j * 2, none⟩ (.int .i64 (nth l j))).setCell ⟨g, j * 2 + 1, none⟩ (.int .i64 (nth m j))) := by
  refine ⟨fun i hi => ?_, fun o => by rw [World.frozen?_setCell, World.frozen?_setCell]; exact h.2.1 o, by simpa using h.2.2⟩
  obtain ⟨a, b, h1, h2, h3⟩ := h.1 i hi
  by_cases e : i = j
  · subst e
    refine ⟨nth l i, nth m i, ?_, ?_, fun _ => ⟨rfl, rfl⟩⟩
    · rw [World.cell?_setCell_other _ _ _ _ (by simp)]
      exact World.cell?_setCell_same w _ _ h1
    · refine World.cell?_setCell_same _ _ _ (u := .int .i64 b) ?_
      rw [World.cell?_setCell_other _ _ _ _ (by simp)]
      exact h2
  · refine ⟨a, b, ?_, ?_, fun hlt => h3 (by omega)⟩
    · rw [World.cell?_setCell_other _ _ _ _ (by simp <;> omega), World.cell?_setCell_other _ _ _ _ (by simp <;> omega)]
      exact h1
    · rw [World.cell?_setCell_other _ _ _ _ (by simp <;> omega), World.cell?_setCell_other _ _ _ _ (by simp <;> omega)]
      exact h2

theorem infoIv : (Try.prog.info? 81).map (fun i => (i.zero, i.size, i.bytes)) = some (some (.agg #[.int .i64 0, .int .i64 0]), 2, 16) := by kernel_rfl

theorem made2_cell (n k : Nat) (h : k < n * 2) : (madeCells #[Value.int .i64 0, Value.int .i64 0] (n * 2))[k]? = some (.int .i64 0) := by
  have hk : k % 2 = 0 ∨ k % 2 = 1 := by omega
  rcases hk with hk | hk <;> simp [madeCells, h, hk]

theorem PairsTo.made (w : World) (l m : List Int) : PairsTo w.heap.size 0 l m (w.alloc (.cells (madeCells #[.int .i64 0, .int .i64 0] (l.length * 2)) 81)) := by
  refine ⟨fun i hi => ⟨0, 0, ?_, ?_, fun h => absurd h (by omega)⟩, fun o => World.frozen?_alloc_at _ _ _ _ rfl, by rw [World.size_alloc]; omega⟩
  · rw [World.cell?_alloc_at _ _ _ _ rfl]; exact made2_cell _ _ (by omega)
  · rw [World.cell?_alloc_at _ _ _ _ rfl]; exact made2_cell _ _ (by omega)

theorem run_make_iv (N : Nat) (h : N ≤ 7) (W : World) : (Instr.makeSlice 76 (.int .i64 (N : Int)) (.int .i64 (N : Int))).run Try.prog W = .ok (.slice (some ⟨W.heap.size, 0, none⟩) N N) (W.alloc (.cells (madeCells #[.int .i64 0, .int .i64 0] (N * 2)) 81)) := by
  obtain ⟨i, hi, hzz⟩ := Option.map_eq_some_iff.1 infoIv
  simp only [Prod.mk.injEq] at hzz
  obtain ⟨hz, hs, hb⟩ := hzz
  have := run_make (P := Try.prog) W 76 81 i _ Try.underlying76 hi hz .i64 .i64 N N (by omega) (by omega) (by rw [hb]; omega) (by omega)
  rw [hs] at this
  simpa [Value.cells] using this

theorem isValid_is (x y : Int) (w : World) : Calls Try.prog 110 #[.agg #[.int .i64 x, .int .i64 y]] w (SaysB (0 ≤ x ∧ x ≤ y ∧ y ≤ 99) w) := by
  have F0 := Lib.hid (show Below w.heap.size w (w.alloc (.cells #[.int .i64 x, .int .i64 y] 81)) from (Below.refl _ w).alloc (Nat.le_refl _) _)
  obtain ⟨P, hP⟩ : ∃ P : Prop, P = (0 ≤ x ∧ x ≤ y ∧ y ≤ 99) := ⟨_, rfl⟩
  have HP := Lib.hid (show P ↔ (0 ≤ x ∧ x ≤ y ∧ y ≤ 99) by rw [hP])
  rw [← hP]
  clear hP
  by_cases h0 : 0 ≤ x
  · have d0 : decide (0 ≤ x) = true := by simp [h0]
    by_cases h1 : x ≤ y
    · have d1 : decide (x ≤ y) = true := by simp [h1]
      by_cases h2 : y ≤ 99
      · have d2 : decide (y ≤ 99) = true := by simp [h2]
        have HY := Lib.hid (HP.out.2 ⟨h0, h1, h2⟩)
        go_enter Try.func110, Try.ntmps110
        go_wp2
        go_ret
        exact SaysB.yes HY.out F0.out
      · have d2 : decide (y ≤ 99) = false := by simp; omega
        have HY := Lib.hid (show ¬ P from fun h => h2 (HP.out.1 h).2.2)
        go_enter Try.func110, Try.ntmps110
        go_wp2
        go_ret
        exact SaysB.no HY.out F0.out
    · have d1 : decide (x ≤ y) = false := by simp; omega
      have HY := Lib.hid (show ¬ P from fun h => h1 (HP.out.1 h).2.1)
      go_enter Try.func110, Try.ntmps110
      go_wp2
      go_ret
      exact SaysB.no HY.out F0.out
  · have d0 : decide (0 ≤ x) = false := by simp; omega
    have HY := Lib.hid (show ¬ P from fun h => h0 (HP.out.1 h).1)
    go_enter Try.func110, Try.ntmps110
    go_wp2
    go_ret
    exact SaysB.no HY.out F0.out

/-- The intervals of a model, as a row of pairs; no row, where it is no model. -/
def GetsIv (w : World) (l m : List Int) (e : Ending) (w' : World) : Prop := ∃ v, e = .returned (.tuple #[v, .bool (decide (IvP l m))]) ∧ (IvP l m → ∃ g, v = .slice (some ⟨g, 0, none⟩) l.length l.length ∧ w.heap.size ≤ g ∧ PairRow g l m w') ∧ (¬ IvP l m → v = .slice none 0 0) ∧ Below w.heap.size w w'

set_option maxHeartbeats 4000000 in
set_option maxRecDepth 100000 in
theorem intervalsOf_is (v u : Value) (l m : List Int) (w : World) (h : Ints w v l) (g : Ints w u m) (hl : l.length ≤ 1048576) (hm : m.length ≤ 1048576) :
    Calls Try.prog 62 #[.agg #[v, u]] w (GetsIv w l m) := by
  obtain ⟨ad, cap, rfl, -, -⟩ := h.form
  obtain ⟨bd, cap', rfl, -, -⟩ := g.form
  have HI := Lib.hid h
  have HJ := Lib.hid g
  clear h g
  have F0 := Lib.hid (show Below w.heap.size w (w.alloc (.cells #[.slice ad l.length cap, .slice bd m.length cap'] 28)) from (Below.refl _ w).alloc (Nat.le_refl _) _)
  have A0 := Lib.hid (show Box w.heap.size [.slice ad l.length cap, .slice bd m.length cap'] (w.alloc (.cells #[.slice ad l.length cap, .slice bd m.length cap'] 28)) from Box.new w _ _)
  by_cases k1 : l.length < 1
  · have d1 : decide ((l.length : Int) < 1) = true := by simp; omega
    have HN := Lib.hid (show ¬ IvP l m from fun h => by have := h.1.1; omega)
    go_enter Try.func62, Try.ntmps62
    go_wp2
    go_ret2
    exact ⟨_, by rw [decide_eq_false HN.out]; rfl, fun h => absurd h HN.out, fun _ => rfl, F0.out⟩
  have d1 : decide ((l.length : Int) < 1) = false := by simp; omega
  by_cases k2 : 7 < l.length
  · have d2 : decide ((7 : Int) < (l.length : Int)) = true := by simp; omega
    have HN := Lib.hid (show ¬ IvP l m from fun h => by have := h.1.2; omega)
    go_enter Try.func62, Try.ntmps62
    go_wp2
    go_ret2
    exact ⟨_, by rw [decide_eq_false HN.out]; rfl, fun h => absurd h HN.out, fun _ => rfl, F0.out⟩
  have d2 : decide ((7 : Int) < (l.length : Int)) = false := by simp; omega
  by_cases k3 : m.length = l.length
  · have d3 : ((m.length : Int) != l.length) = false := by simp [k3]
    have hml : l.length ≤ m.length := by omega
    have HK := Lib.hid k3
    have hmk := run_make_iv l.length (by omega)
    have HP0 := Lib.hid (PairsTo.made (w.alloc (.cells #[.slice ad l.length cap, .slice bd m.length cap'] 28)) l m)
    have HB0 := Lib.hid ((Below.refl _ (w.alloc (.cells #[.slice ad l.length cap, .slice bd m.length cap'] 28))).alloc (Nat.le_refl _) (.cells (madeCells #[.int .i64 0, .int .i64 0] (l.length * 2)) 81))
    clear k3
    go_enter Try.func62, Try.ntmps62
    go_wp2
    go_loopw [31] (fun i wr => ∃ j : Nat, j ≤ l.length ∧ i = .int .i64 j ∧ PairsTo (w.heap.size + 1) j l m wr ∧ Below (w.alloc (.cells #[.slice ad l.length cap, .slice bd m.length cap'] 28)).heap.size (w.alloc (.cells #[.slice ad l.length cap, .slice bd m.length cap'] 28)) wr ∧ Hid (∀ i, i < j → 0 ≤ nth l i ∧ nth l i ≤ nth m i ∧ nth m i ≤ 99)) (fun i _ => l.length - (intOf i).toNat)
    case atStart => exact ⟨0, by omega, rfl, by simpa using HP0.out, HB0.out, fun i hi => absurd hi (by omega)⟩
    case round =>
      clear hmk
      obtain ⟨j, hj, rfl, hpt, hbel, HO⟩ := hrel
      have hB := F0.out.trans (hbel.mono F0.out.size)
      have x0 : wr.cell? ⟨w.heap.size, 0, none⟩ = some (.slice ad l.length cap) := (A0.out.on hbel).1 0 _ rfl
      have x1 : wr.cell? ⟨w.heap.size, 1, none⟩ = some (.slice bd m.length cap') := (A0.out.on hbel).1 1 _ rfl
      have hsz : w.heap.size + 1 < wr.heap.size := hpt.2.2
      have HBL := Lib.hid hbel
      have hwz : (w.alloc (.cells #[.slice ad l.length cap, .slice bd m.length cap'] 28)).heap.size = w.heap.size + 1 := by simp
      by_cases hlt : j < l.length
      · have hltm : j < m.length := by omega
        obtain ⟨b, off, cap1, hv, _, _, hb, hcell⟩ := (HI.out.on hB).pos (by omega)
        simp only [Value.slice.injEq] at hv
        obtain ⟨rfl, -, rfl⟩ := hv
        obtain ⟨b', off', cap1', hv, _, _, hb', hcell'⟩ := (HJ.out.on hB).pos (by omega)
        simp only [Value.slice.injEq] at hv
        obtain ⟨rfl, -, rfl⟩ := hv
        obtain ⟨x, hx⟩ : ∃ x, x = nth l j := ⟨_, rfl⟩
        obtain ⟨y, hy⟩ : ∃ y, y = nth m j := ⟨_, rfl⟩
        have c1 := hcell j hlt
        have c2 := hcell' j (by omega)
        rw [← hx] at c1
        rw [← hy] at c2
        have HX := Lib.hid hx
        have HY := Lib.hid hy
        clear hcell hcell' hx hy
        obtain ⟨p, q, p1, p2, -⟩ := hpt.1 j hlt
        have pf := hpt.2.1
        have HPT := Lib.hid hpt
        have HPS := Lib.hid (hpt.set hlt).drew
        rw [← HX.out, ← HY.out] at HPS
        obtain ⟨w3, hw3⟩ : ∃ w3, w3 = ((wr.setCell ⟨w.heap.size + 1, j * 2, none⟩ (.int .i64 x)).setCell ⟨w.heap.size + 1, j * 2 + 1, none⟩ (.int .i64 y)).drew := ⟨_, rfl⟩
        have HW3 := Lib.hid hw3
        rw [← hw3] at HPS
        have HB3 := Lib.hid (show Below (w.heap.size + 1) (w.alloc (.cells #[.slice (some ⟨b, off, none⟩) l.length cap, .slice (some ⟨b', off', none⟩) m.length cap'] 28)) w3 by rw [hw3]; exact (((HBL.out.mono (by simp)).setCell (by simp) _).setCell (by simp) _).drew)
        clear hpt hbel
        go_wp2
        go_still_tail 14, (by kernel_rfl)
        change wpList _ _ _ _ _ wr.drew
        go_wp2_with fail
        rw [← hw3]
        refine (isValid_is x y _).mono ?_
        rintro e w4 ⟨r, rfl, hr, hb4⟩
        have HR := Lib.hid hr
        have HP4 := Lib.hid (HPS.out.on hb4)
        have HB4 := Lib.hid (HB3.out.trans (hb4.mono (by have := HB3.out.size; simpa using this)))
        clear hr hb4 hw3 p1 p2 x0 x1 c1 c2
        cases r with
        | false =>
          have HN := Lib.hid (show ¬ IvP l m from fun h => absurd (HR.out.2 (by rw [HX.out, HY.out]; exact h.2.2 j hlt)) (by decide))
          go_wp2
          go_ret2
          exact ⟨_, by rw [decide_eq_false HN.out]; rfl, fun h => absurd h HN.out, fun _ => rfl, F0.out.trans (HB4.out.mono (by omega))⟩
        | true =>
          have HN1 : Hid (∀ i, i < j + 1 → 0 ≤ nth l i ∧ nth l i ≤ nth m i ∧ nth m i ≤ 99) := fun i hi => by
            rcases Nat.lt_or_ge i j with h | h
            · exact HO.out i h
            · obtain rfl : i = j := by omega
              rw [← HX.out, ← HY.out]; exact HR.out.1 (by first | rfl | trivial)
          go_wp2
          go_roundw
          case rel => exact ⟨j + 1, by omega, by go_num, HP4.out, HB4.out.mono (by simp), HN1.out⟩
          case measure => simp [intOf]; omega
      · obtain rfl : j = l.length := by omega
        have HY := Lib.hid (show IvP l m from ⟨⟨by omega, by omega⟩, HK.out, HO.out⟩)
        have HF := Lib.hid hB
        have HP := Lib.hid hpt
        clear hpt hbel hB
        go_wp2
        go_ret2
        exact ⟨_, by rw [decide_eq_true HY.out]; rfl, fun _ => ⟨_, rfl, by omega, HP.out.full⟩, fun h => absurd HY.out h, HF.out⟩
  · have d3 : ((m.length : Int) != l.length) = true := by simp; omega
    have HN := Lib.hid (show ¬ IvP l m from fun h => k3 h.2.1)
    clear k3
    go_enter Try.func62, Try.ntmps62
    go_wp2
    go_ret2
    exact ⟨_, by rw [decide_eq_false HN.out]; rfl, fun h => absurd h HN.out, fun _ => rfl, F0.out⟩

set_option maxHeartbeats 2000000 in
set_option maxRecDepth 100000 in
theorem specIsModel (v u : Value) (l m : List Int) (w : World) (h : Ints w v l) (g : Ints w u m) (hl : l.length ≤ 1048576) (hm : m.length ≤ 1048576) :
    Calls Try.prog 56 #[.agg #[v, u]] w (SaysB (IvP l m) w) := by
  obtain ⟨ad, cap, rfl, -, -⟩ := h.form
  obtain ⟨bd, cap', rfl, -, -⟩ := g.form
  have HI := Lib.hid h
  have HJ := Lib.hid g
  clear h g
  have F0 := Lib.hid (show Below w.heap.size w (w.alloc (.cells #[.slice ad l.length cap, .slice bd m.length cap'] 28)) from (Below.refl _ w).alloc (Nat.le_refl _) _)
  have A0 := Lib.hid (show Box w.heap.size [.slice ad l.length cap, .slice bd m.length cap'] (w.alloc (.cells #[.slice ad l.length cap, .slice bd m.length cap'] 28)) from Box.new w _ _)
  go_enter Try.func56, Try.ntmps56
  go_wp2
  go_loopw [3] (fun i wr => ∃ j : Nat, j ≤ l.length ∧ j ≤ m.length ∧ i = .int .i64 j ∧ Below (w.alloc (.cells #[.slice ad l.length cap, .slice bd m.length cap'] 28)).heap.size (w.alloc (.cells #[.slice ad l.length cap, .slice bd m.length cap'] 28)) wr ∧ Hid (∀ i, i < j → 0 ≤ nth l i ∧ nth l i ≤ nth m i ∧ nth m i ≤ 99)) (fun i _ => l.length - (intOf i).toNat)
  case atStart => exact ⟨0, by omega, by omega, rfl, Below.refl _ _, fun i hi => absurd hi (by omega)⟩
  case round =>
    obtain ⟨j, hj, hjm, rfl, hbel, HO⟩ := hrel
    have hB := F0.out.trans (hbel.mono F0.out.size)
    have x0 : wr.cell? ⟨w.heap.size, 0, none⟩ = some (.slice ad l.length cap) := (A0.out.on hbel).1 0 _ rfl
    have x1 : wr.cell? ⟨w.heap.size, 1, none⟩ = some (.slice bd m.length cap') := (A0.out.on hbel).1 1 _ rfl
    by_cases hlt : j < l.length
    · by_cases hltm : j < m.length
      · have hz : (w.alloc (.cells #[.slice ad l.length cap, .slice bd m.length cap'] 28)).heap.size ≤ wr.heap.size := hbel.size
        have HBL := Lib.hid hbel
        have HX0 : Hid (∀ X : Since wr, Box w.heap.size [.slice ad l.length cap, .slice bd m.length cap'] X.val) := fun X => A0.out.on (HBL.out.trans (X.prop.mono hz))
        have hx0 : ∀ X : Since wr, X.val.cell? ⟨w.heap.size, 0, none⟩ = some (.slice ad l.length cap) := fun X => (HX0.out X).1 0 _ rfl
        have hx1 : ∀ X : Since wr, X.val.cell? ⟨w.heap.size, 1, none⟩ = some (.slice bd m.length cap') := fun X => (HX0.out X).1 1 _ rfl
        obtain ⟨b, off, cap1, hv, _, _, hb, hcell⟩ := (HI.out.on hB).pos (by omega)
        simp only [Value.slice.injEq] at hv
        obtain ⟨rfl, -, rfl⟩ := hv
        obtain ⟨b', off', cap1', hv, _, _, hb', hcell'⟩ := (HJ.out.on hB).pos (by omega)
        simp only [Value.slice.injEq] at hv
        obtain ⟨rfl, -, rfl⟩ := hv
        obtain ⟨x, hx⟩ : ∃ x, x = nth l j := ⟨_, rfl⟩
        obtain ⟨y, hy⟩ : ∃ y, y = nth m j := ⟨_, rfl⟩
        have c1 := hcell j hlt
        have c2 := hcell' j (by omega)
        rw [← hx] at c1
        rw [← hy] at c2
        have HX := Lib.hid hx
        have HY := Lib.hid hy
        clear hcell hcell' hx hy
        have hy1 : ∀ X : Since wr, X.val.cell? ⟨b, off + j, none⟩ = some (.int .i64 x) := fun X => (X.prop.cell (p := ⟨b, off + j, none⟩) hb).trans c1
        have hy2 : ∀ X : Since wr, X.val.cell? ⟨b', off' + j, none⟩ = some (.int .i64 y) := fun X => (X.prop.cell (p := ⟨b', off' + j, none⟩) hb').trans c2
        have HB := Lib.hid hB
        by_cases e1 : 0 ≤ x ∧ x ≤ 99
        · have HC1 : Hid (∀ X : Since wr, Calls Try.prog 87 #[.int .i64 x, .int .i64 0, .int .i64 99] X.val fun e w' => e = .returned (.bool true) ∧ Below X.val.heap.size X.val w') := fun X => (l1In_yes' x 0 99 _ e1.1 e1.2).mono fun _ _ h => ⟨h.1, h.2 ▸ Below.refl _ _⟩
          by_cases e2 : x ≤ y ∧ y ≤ 99
          · have HC2 : Hid (∀ X : Since wr, Calls Try.prog 87 #[.int .i64 y, .int .i64 x, .int .i64 99] X.val fun e w' => e = .returned (.bool true) ∧ Below X.val.heap.size X.val w') := fun X => (l1In_yes' y x 99 _ e2.1 e2.2).mono fun _ _ h => ⟨h.1, h.2 ▸ Below.refl _ _⟩
            have HN1 : Hid (∀ i, i < j + 1 → 0 ≤ nth l i ∧ nth l i ≤ nth m i ∧ nth m i ≤ 99) := fun i hi => by
              rcases Nat.lt_or_ge i j with h | h
              · exact HO.out i h
              · obtain rfl : i = j := by omega
                rw [← HX.out, ← HY.out]; omega
            clear HO e1 e2 hbel hB c1 c2
            go_wp2
            refine wp_region_since (by kernel_rfl) (by kernel_rfl) ?_
            repeat (go_big_quiet_step (first | with_reducible exact since_call (HC1.out _) | with_reducible exact since_call (HC2.out _)))
            refine wpQuiet_nil ?_
            intro Y
            have HB3 := Lib.hid (HBL.out.trans (Y.prop.mono hz))
            clear hx0 hx1 hy1 hy2 x0 x1
            go_wp2
            go_roundw
            case rel => exact ⟨j + 1, by omega, by omega, by go_num, HB3.out, HN1.out⟩
            case measure => simp [intOf]; omega
          · have HC2 : Hid (∀ X : Since wr, Calls Try.prog 87 #[.int .i64 y, .int .i64 x, .int .i64 99] X.val fun e w' => e = .returned (.bool false) ∧ Below X.val.heap.size X.val w') := fun X => (l1In_no' y x 99 _ e2).mono fun _ _ h => ⟨h.1, h.2 ▸ Below.refl _ _⟩
            have HE := Lib.hid e2
            clear e1 e2 hbel hB c1 c2
            go_wp2
            refine wp_region_since (by kernel_rfl) (by kernel_rfl) ?_
            repeat (go_big_quiet_step (first | with_reducible exact since_call (HC1.out _) | with_reducible exact since_call (HC2.out _)))
            refine wpQuiet_nil ?_
            intro Y
            have HW := Lib.hid (HB.out.trans (Y.prop.mono HB.out.size))
            clear hx0 hx1 hy1 hy2 x0 x1
            go_wp2
            go_ret
            exact SaysB.no (fun h => by have h1 := h.2.2 j hlt; have h3 := HE.out; rw [← HX.out, ← HY.out] at h1; omega) HW.out
        · have HC1 : Hid (∀ X : Since wr, Calls Try.prog 87 #[.int .i64 x, .int .i64 0, .int .i64 99] X.val fun e w' => e = .returned (.bool false) ∧ Below X.val.heap.size X.val w') := fun X => (l1In_no' x 0 99 _ e1).mono fun _ _ h => ⟨h.1, h.2 ▸ Below.refl _ _⟩
          have HE := Lib.hid e1
          clear e1 hbel hB c1 c2
          go_wp2
          refine wp_region_since (by kernel_rfl) (by kernel_rfl) ?_
          repeat (go_big_quiet_step (first | with_reducible exact since_call (HC1.out _)))
          refine wpQuiet_nil ?_
          intro Y
          have HW := Lib.hid (HB.out.trans (Y.prop.mono HB.out.size))
          clear hx0 hx1 hy1 hy2 x0 x1
          go_wp2
          go_ret
          exact SaysB.no (fun h => by have h1 := h.2.2 j hlt; have h3 := HE.out; rw [← HX.out, ← HY.out] at h1; omega) HW.out
      · skip
        by_cases t2 : (1 : Int) ≤ (l.length : Int) ∧ (l.length : Int) ≤ 7
        · by_cases t3 : m.length = l.length
          · have d3 : ((m.length : Int) == l.length) = true := by simp [t3]
            have HF : Hid (IvP l m) := ⟨⟨by omega, by omega⟩, t3, fun i hi => HO.out i (by omega)⟩
            have q3 := t2.1
            have q4 := t2.2
            clear t2 t3
            go_wp2_with fail
            refine (l1In_yes' _ _ _ _ q3 q4).mono ?_
            rintro e w1 ⟨rfl, rfl⟩
            go_wp2
            go_ret
            exact SaysB.yes HF.out hB
          · have d3 : ((m.length : Int) == l.length) = false := by simp; omega
            have HT3 := Lib.hid t3
            have q3 := t2.1
            have q4 := t2.2
            clear t2 t3
            go_wp2_with fail
            refine (l1In_yes' _ _ _ _ q3 q4).mono ?_
            rintro e w1 ⟨rfl, rfl⟩
            go_wp2
            go_ret
            exact SaysB.no (fun h => HT3.out h.2.1) hB
        · have HT2 := Lib.hid t2
          clear t2
          go_wp2_with fail
          refine (l1In_no' _ _ _ _ HT2.out).mono ?_
          rintro e w1 ⟨rfl, rfl⟩
          go_wp2
          go_ret
          exact SaysB.no (fun h => HT2.out ⟨by have := h.1.1; omega, by have := h.1.2; omega⟩) hB
    · skip
      by_cases t2 : (1 : Int) ≤ (l.length : Int) ∧ (l.length : Int) ≤ 7
      · by_cases t3 : m.length = l.length
        · have d3 : ((m.length : Int) == l.length) = true := by simp [t3]
          have HF : Hid (IvP l m) := ⟨⟨by omega, by omega⟩, t3, fun i hi => HO.out i (by omega)⟩
          have q3 := t2.1
          have q4 := t2.2
          clear t2 t3
          go_wp2_with fail
          refine (l1In_yes' _ _ _ _ q3 q4).mono ?_
          rintro e w1 ⟨rfl, rfl⟩
          go_wp2
          go_ret
          exact SaysB.yes HF.out hB
        · have d3 : ((m.length : Int) == l.length) = false := by simp; omega
          have HT3 := Lib.hid t3
          have q3 := t2.1
          have q4 := t2.2
          clear t2 t3
          go_wp2_with fail
          refine (l1In_yes' _ _ _ _ q3 q4).mono ?_
          rintro e w1 ⟨rfl, rfl⟩
          go_wp2
          go_ret
          exact SaysB.no (fun h => HT3.out h.2.1) hB
      · have HT2 := Lib.hid t2
        clear t2
        go_wp2_with fail
        refine (l1In_no' _ _ _ _ HT2.out).mono ?_
        rintro e w1 ⟨rfl, rfl⟩
        go_wp2
        go_ret
        exact SaysB.no (fun h => HT2.out ⟨by have := h.1.1; omega, by have := h.1.2; omega⟩) hB

end Go.Proofs.Ytbmpljclplddeab
