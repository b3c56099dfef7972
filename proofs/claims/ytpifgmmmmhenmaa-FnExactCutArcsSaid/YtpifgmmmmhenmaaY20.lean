/- Arcs of a circle: pointsOf. -/
import Derived.Test.YtpifgmmmmhenmaaY19
import Derived.Deep.MidRow
import Derived.Deep.RegionWith
import Derived.Deep.CutRange
import Derived.Deep.LoopGhost
namespace Go.Proofs.Ytpifgmmmmhenmaa
set_option linter.unusedVariables false
set_option linter.unusedSimpArgs false
open Go.RowKit

/-- A block of its own holds these cells. -/
def RowS (g : Nat) (cs : List Value) (w : World) : Prop := w.rangeAt g 0 cs ∧ (∀ o, w.frozen? ⟨g, o, none⟩ = false) ∧ g < w.heap.size

theorem RowS.on {g : Nat} {cs : List Value} {w w' : World} {k : Nat} (h : RowS g cs w) (hb : Below k w w') (hk : g < k) : RowS g cs w' :=
  ⟨fun j v hv => (hb.cell (p := ⟨g, 0 + j, none⟩) hk).trans (h.1 j v hv), fun o => (hb.frozen (p := ⟨g, o, none⟩) hk).trans (h.2.1 o), Nat.lt_of_lt_of_le h.2.2 hb.size⟩

theorem RowS.new (w : World) (c : List Value) (t : TypeId) : RowS w.heap.size c (w.alloc (.cells c.toArray t)) :=
  ⟨fun j v hv => by simpa using hv, fun o => by simp, by simp⟩

theorem RowS.set {g : Nat} {cs : List Value} {w : World} (h : RowS g cs w) (j : Nat) (hj : j < cs.length) (v : Value) : RowS g (cs.set j v) (w.setCell ⟨g, j, none⟩ v) := by
  refine ⟨fun i x hx => ?_, fun o => by rw [World.frozen?_setCell]; exact h.2.1 o, by simpa using h.2.2⟩
  by_cases e : j = i
  · subst e
    have h1 := h.1 j _ (List.getElem?_eq_getElem hj)
    simp only [Nat.zero_add] at h1 ⊢
    rw [World.cell?_setCell_same w _ _ h1]
    simpa [hj] using hx
  · rw [List.getElem?_set_ne e] at hx
    rw [World.cell?_setCell_other _ _ _ _ (by simp only [Nat.zero_add, ne_eq, Addr.mk.injEq]; omega)]
    exact h.1 i x hx

theorem RowS.cell {g : Nat} {cs : List Value} {w : World} (h : RowS g cs w) (j : Nat) (v : Value) (hv : cs[j]? = some v) : w.cell? ⟨g, j, none⟩ = some v := by simpa using h.1 j v hv

theorem cellAfter {W w4 : World} {a b : Value} {T : TypeId} {k : Nat} (hb : Below k (W.alloc (.cells #[a, b] T)).drew w4) (hk : k = (W.alloc (.cells #[a, b] T)).drew.heap.size) :
    (w4.cell? ⟨W.heap.size, 0, none⟩ = some a ∧ w4.cell? ⟨W.heap.size, 1, none⟩ = some b) ∧ w4.frozen? ⟨W.heap.size, 0, none⟩ = false ∧ w4.frozen? ⟨W.heap.size, 1, none⟩ = false := by
  subst hk
  exact ⟨⟨(hb.cell (p := ⟨W.heap.size, 0, none⟩) (by simp)).trans (by simp), (hb.cell (p := ⟨W.heap.size, 1, none⟩) (by simp)).trans (by simp)⟩, (hb.frozen (p := ⟨W.heap.size, 0, none⟩) (by simp)).trans (by simp), (hb.frozen (p := ⟨W.heap.size, 1, none⟩) (by simp)).trans (by simp)⟩

theorem cell_two0 {w : World} {g : Nat} {a x y : Value} (h : w.cell? ⟨g, 0, none⟩ = some a) : ((w.setCell ⟨g, 0, none⟩ x).setCell ⟨g, 1, none⟩ y).cell? ⟨g, 0, none⟩ = some x := by
  rw [World.cell?_setCell_other _ _ _ _ (by simp)]
  exact World.cell?_setCell_same w _ _ h

theorem cell_two1 {w : World} {g : Nat} {b x y : Value} (h : w.cell? ⟨g, 1, none⟩ = some b) : ((w.setCell ⟨g, 0, none⟩ x).setCell ⟨g, 1, none⟩ y).cell? ⟨g, 1, none⟩ = some y := by
  refine World.cell?_setCell_same _ _ _ (u := b) ?_
  rw [World.cell?_setCell_other _ _ _ _ (by simp)]
  exact h

theorem World.size_alloc' (w : World) (o : Obj) : (w.alloc o).heap.size = w.heap.size + 1 := by simp

theorem cellAfter2 {W w4 : World} {a b : Value} {T : TypeId} {k : Nat} (hb : Below k (W.alloc (.cells #[a, b] T)) w4) (hk : k = (W.alloc (.cells #[a, b] T)).heap.size) :
    (w4.cell? ⟨W.heap.size, 0, none⟩ = some a ∧ w4.cell? ⟨W.heap.size, 1, none⟩ = some b) ∧ w4.frozen? ⟨W.heap.size, 0, none⟩ = false ∧ w4.frozen? ⟨W.heap.size, 1, none⟩ = false := by
  subst hk
  exact ⟨⟨(hb.cell (p := ⟨W.heap.size, 0, none⟩) (by simp)).trans (by simp), (hb.cell (p := ⟨W.heap.size, 1, none⟩) (by simp)).trans (by simp)⟩, (hb.frozen (p := ⟨W.heap.size, 0, none⟩) (by simp)).trans (by simp), (hb.frozen (p := ⟨W.heap.size, 1, none⟩) (by simp)).trans (by simp)⟩

theorem RowS.other {g g' : Nat} {cs : List Value} {w : World} (h : RowS g cs w) (j : Nat) (v : Value) (hg : g ≠ g') : RowS g cs (w.setCell ⟨g', j, none⟩ v) :=
  ⟨fun i x hx => by rw [World.cell?_setCell_other _ _ _ _ (by simp only [ne_eq, Addr.mk.injEq]; omega)]; exact h.1 i x hx, fun o => by rw [World.frozen?_setCell]; exact h.2.1 o, by simpa using h.2.2⟩

theorem cell_other2 {g g' : Nat} {w : World} {a b : Value} (j : Nat) (v : Value) (h0 : w.cell? ⟨g, 0, none⟩ = some a) (h1 : w.cell? ⟨g, 1, none⟩ = some b) (hg : g ≠ g') : (w.setCell ⟨g', j, none⟩ v).cell? ⟨g, 0, none⟩ = some a ∧ (w.setCell ⟨g', j, none⟩ v).cell? ⟨g, 1, none⟩ = some b :=
  ⟨by rw [World.cell?_setCell_other _ _ _ _ (by simp only [ne_eq, Addr.mk.injEq]; omega)]; exact h0, by rw [World.cell?_setCell_other _ _ _ _ (by simp only [ne_eq, Addr.mk.injEq]; omega)]; exact h1⟩

theorem mod_succ {n x : Int} {i p : Nat} (hn : 0 < n) (h : (x + (i : Int)) % n = (p : Int)) : (x + ((i + 1 : Nat) : Int)) % n = ((p : Int) + 1) % n := by
  rw [← h, Int.emod_add_emod]
  congr 1
  push_cast
  omega

theorem below_setCells {k : Nat} {w w' : World} (h : Below k w w') (b : Nat) : ∀ (o : Nat) (vs : List Value), k ≤ b → Below k w (w'.setCells b o vs) := by
  intro o vs hb
  induction vs generalizing o w' with
  | nil => exact h
  | cons v r ih => exact ih (h.setCell hb v) (o + 1)

/-- The points of an arc that begins at f, the first k. -/
def onB (n f : Int) (k : Nat) (x : Nat) : Bool := decide (∃ i, i < k ∧ (f + (i : Int)) % n = (x : Int))

def onRow (n f : Int) (k : Nat) : List Value := (List.range 30).map fun x => Value.bool (onB n f k x)

theorem onRow_zero (n f : Int) : onRow n f 0 = List.replicate 30 (.bool false) := by
  have : ∀ x, onB n f 0 x = false := fun x => by simp [onB]
  simp only [onRow, this]
  rfl

theorem onRow_get (n f : Int) (k : Nat) {p : Nat} (h : p < 30) : (onRow n f k)[p]? = some (.bool (onB n f k p)) := by
  simp [onRow, h]

theorem onRow_len (n f : Int) (k : Nat) : (onRow n f k).length = 30 := by simp [onRow]

theorem mod_ne {n x : Int} {i k : Nat} (h3 : 3 ≤ n) (h30 : n ≤ 30) (h0 : 0 ≤ x) (h1 : x < n) (hi : i < k) (hk : (k : Int) < n) : ¬ (x + (i : Int)) % n = (x + (k : Int)) % n := fun h => by
  have a1 := Int.emod_add_mul_ediv (x + (i : Int)) n
  have a2 := Int.emod_add_mul_ediv (x + (k : Int)) n
  rw [h] at a1
  have h4 : n * ((x + (k : Int)) / n - (x + (i : Int)) / n) = (k : Int) - i := by rw [Int.mul_sub]; omega
  obtain ⟨d, hd⟩ : ∃ d, d = (x + (k : Int)) / n - (x + (i : Int)) / n := ⟨_, rfl⟩
  rw [← hd] at h4
  have h5 : d < 1 := by
    rcases Int.lt_or_le d 1 with h | h
    · exact h
    · have := Int.mul_le_mul_of_nonneg_left h (show 0 ≤ n by omega); omega
  have h6 : 0 < d := by
    rcases Int.lt_or_le 0 d with h | h
    · exact h
    · have := Int.mul_le_mul_of_nonneg_left h (show 0 ≤ n by omega); omega
  omega

theorem onRow_succ (n f : Int) (k : Nat) {p : Nat} (h : (f + (k : Int)) % n = (p : Int)) : (onRow n f k).set p (.bool true) = onRow n f (k + 1) := by
  apply List.ext_getElem?
  intro a
  by_cases ha : a < 30
  · rw [onRow_get n f (k + 1) ha]
    by_cases e : p = a
    · subst e
      have : onB n f (k + 1) p = true := decide_eq_true ⟨k, by omega, h⟩
      rw [this]
      simp [onRow_len, ha]
    · rw [List.getElem?_set_ne e, onRow_get n f k ha]
      have : onB n f (k + 1) a = onB n f k a := by
        unfold onB
        congr 1
        apply propext
        constructor
        · rintro ⟨i, hi, h'⟩
          rcases Nat.lt_or_ge i k with h2 | h2
          · exact ⟨i, h2, h'⟩
          · obtain rfl : i = k := by omega
            exact absurd (by rw [h] at h'; omega) e
        · rintro ⟨i, hi, h'⟩
          exact ⟨i, by omega, h'⟩
      rw [this]
  · rw [List.getElem?_eq_none (by simp [onRow_len]; omega), List.getElem?_eq_none (by simp [onRow_len]; omega)]

set_option maxHeartbeats 2000000 in
set_option maxRecDepth 100000 in
theorem pointsOf_is (n : Int) (v u : Value) (l m : List Int) (j : Nat) (w : World) (h : Ints w v l) (g : Ints w u m) (HP : Hid (ArcsP n l m)) (hj : j < l.length) :
    Calls Try.prog 144 #[.agg #[.int .i64 n, v, u], .int .i64 j] w (fun e w' => e = .returned (.agg (onRow n (nth l j) (nth m j).toNat).toArray) ∧ Below w.heap.size w w') := by
  obtain ⟨ad, cap, rfl, -, -⟩ := h.form
  obtain ⟨bd, cap', rfl, -, -⟩ := g.form
  obtain ⟨w1, hw1⟩ : ∃ x, x = w.alloc (.cells #[.int .i64 n, .slice ad l.length cap, .slice bd m.length cap'] 55) := ⟨_, rfl⟩
  have HW1 := Lib.hid hw1
  have F1 := Lib.hid (show Below w.heap.size w w1 by rw [hw1]; exact (Below.refl _ w).alloc (Nat.le_refl _) _)
  have A1 := Lib.hid (show Box w.heap.size [.int .i64 n, .slice ad l.length cap, .slice bd m.length cap'] w1 by rw [hw1]; exact Box.new w _ _)
  have s1 : w1.heap.size = w.heap.size + 1 := by rw [hw1]; simp
  clear hw1
  obtain ⟨w2, hw2⟩ : ∃ x, x = (w1.alloc (.cells #[.bool false, .bool false, .bool false, .bool false, .bool false, .bool false, .bool false, .bool false, .bool false, .bool false, .bool false, .bool false, .bool false, .bool false, .bool false, .bool false, .bool false, .bool false, .bool false, .bool false, .bool false, .bool false, .bool false, .bool false, .bool false, .bool false, .bool false, .bool false, .bool false, .bool false] 150)).alloc (.cells #[.bool false, .bool false, .bool false, .bool false, .bool false, .bool false, .bool false, .bool false, .bool false, .bool false, .bool false, .bool false, .bool false, .bool false, .bool false, .bool false, .bool false, .bool false, .bool false, .bool false, .bool false, .bool false, .bool false, .bool false, .bool false, .bool false, .bool false, .bool false, .bool false, .bool false] 150) := ⟨_, rfl⟩
  have HW2 := Lib.hid hw2
  have F2 := Lib.hid (show Below w1.heap.size w1 w2 by rw [hw2]; exact ((Below.refl _ w1).alloc (Nat.le_refl _) _).alloc (by simp) _)
  have s2 : w2.heap.size = w.heap.size + 3 := by rw [hw2]; simp [s1]
  have R1 := Lib.hid (show RowS (w.heap.size + 1) (List.replicate 30 (.bool false)) w2 by
    rw [hw2, ← s1]; exact (RowS.new w1 (List.replicate 30 (.bool false)) _).on (k := (w1.alloc (.cells #[.bool false, .bool false, .bool false, .bool false, .bool false, .bool false, .bool false, .bool false, .bool false, .bool false, .bool false, .bool false, .bool false, .bool false, .bool false, .bool false, .bool false, .bool false, .bool false, .bool false, .bool false, .bool false, .bool false, .bool false, .bool false, .bool false, .bool false, .bool false, .bool false, .bool false] 150)).heap.size) ((Below.refl _ _).alloc (Nat.le_refl _) _) (by simp))
  have R2 := Lib.hid (show RowS (w.heap.size + 2) (List.replicate 30 (.bool false)) w2 by
    have := RowS.new (w1.alloc (.cells #[.bool false, .bool false, .bool false, .bool false, .bool false, .bool false, .bool false, .bool false, .bool false, .bool false, .bool false, .bool false, .bool false, .bool false, .bool false, .bool false, .bool false, .bool false, .bool false, .bool false, .bool false, .bool false, .bool false, .bool false, .bool false, .bool false, .bool false, .bool false, .bool false, .bool false] 150)) (List.replicate 30 (.bool false)) 150
    rw [hw2]; simpa [s1] using this)
  clear hw2
  have F12 := Lib.hid (F1.out.trans (F2.out.mono (by omega)))
  have hjm : j < m.length := by have := HP.out.2.2.1; omega
  obtain ⟨b, off, cap1, hv, _, _, hb, hcell⟩ := (h.on F12.out).pos (by omega)
  simp only [Value.slice.injEq] at hv
  obtain ⟨rfl, -, rfl⟩ := hv
  obtain ⟨b', off', cap1', hv, _, _, hb', hcell'⟩ := (g.on F12.out).pos (by omega)
  simp only [Value.slice.injEq] at hv
  obtain ⟨rfl, -, rfl⟩ := hv
  obtain ⟨x, hx⟩ : ∃ x, x = nth l j := ⟨_, rfl⟩
  obtain ⟨y, hy⟩ : ∃ y, y = nth m j := ⟨_, rfl⟩
  have c1 := hcell j hj
  have c2 := hcell' j hjm
  rw [← hx] at c1
  rw [← hy] at c2
  have hxy := HP.out.2.2.2 j hj
  rw [← hx, ← hy] at hxy ⊢
  have hn3 := HP.out.1.1
  have hn30 := HP.out.1.2
  have x0 : w2.cell? ⟨w.heap.size, 0, none⟩ = some (.int .i64 n) := (A1.out.on (F2.out.mono (by omega))).1 0 _ rfl
  have x1 : w2.cell? ⟨w.heap.size, 1, none⟩ = some (.slice (some ⟨b, off, none⟩) l.length cap) := (A1.out.on (F2.out.mono (by omega))).1 1 _ rfl
  have x2 : w2.cell? ⟨w.heap.size, 2, none⟩ = some (.slice (some ⟨b', off', none⟩) m.length cap') := (A1.out.on (F2.out.mono (by omega))).1 2 _ rfl
  clear hcell hcell' hx hy h g
  obtain ⟨w3, hw3⟩ : ∃ z, z = (w2.alloc (.cells #[.int .i64 x, .int .i64 n] 170)).drew := ⟨_, rfl⟩
  have HW3 := Lib.hid hw3
  have F3 := Lib.hid (show Below w2.heap.size w2 w3 by rw [hw3]; exact ((Below.refl _ w2).alloc (Nat.le_refl _) _).drew)
  have s3 : w3.heap.size = w.heap.size + 4 := by rw [hw3]; simp [s2]
  have y0 : w3.cell? ⟨w2.heap.size, 0, none⟩ = some (.int .i64 x) := by rw [hw3]; simp
  have y1 : w3.cell? ⟨w2.heap.size, 1, none⟩ = some (.int .i64 n) := by rw [hw3]; simp
  have y2 : w3.cell? ⟨w.heap.size, 2, none⟩ = some (.slice (some ⟨b', off', none⟩) m.length cap') := (F3.out.cell (p := ⟨w.heap.size, 2, none⟩) (by show w.heap.size < _; omega)).trans x2
  have y3 : w3.cell? ⟨b', off' + j, none⟩ = some (.int .i64 y) := (F3.out.cell (p := ⟨b', off' + j, none⟩) hb').trans c2
  have hz1 : w2.heap.size < w3.heap.size := by omega
  have hz2 : w.heap.size < w3.heap.size := by omega
  have hz3 : b' < w3.heap.size := by have := F3.out.size; omega
  clear hw3
  have HXY := Lib.hid hxy
  have H3 := Lib.hid hn3
  have H30 := Lib.hid hn30
  have S1 := Lib.hid s1
  have S2 := Lib.hid s2
  have S3 := Lib.hid s3
  clear hxy hn3 hn30 s1 s2 s3
  obtain ⟨M, hM⟩ : ∃ z, z = (x + y) % n := ⟨_, rfl⟩
  have HMM := Lib.hid hM
  have HAF : Hid (∀ W : World, Calls Try.prog 166 #[.agg #[.int .i64 x, .int .i64 n], .int .i64 y] W (fun e w' => e = .returned (.agg #[.int .i64 M, .int .i64 n]) ∧ Below W.heap.size W w')) := fun W => by rw [hM]; exact after_is x n y W HXY.out.1 HXY.out.2.1 (by have := HXY.out.2.2.1; omega) HXY.out.2.2.2 H30.out
  clear hM
  obtain ⟨k0, hk0⟩ : ∃ k : Nat, y = (k : Int) := ⟨y.toNat, by have := HXY.out.2.2.1; omega⟩
  have hk1 : y.toNat = k0 := by rw [hk0]; rfl
  rw [hk1]
  have HK0 := Lib.hid hk0
  clear hk0 hk1
  go_enter Try.func144, Try.ntmps144
  go_upto_region 2 with fail
  rw [← HW1.out, ← HW2.out]
  go_cut [6] from 9 to 16 (fun s wx => s = .pointer (some ⟨w2.heap.size, 0, none⟩) ∧ wx = w3)
  case first =>
    have hz4 : w.heap.size < w2.heap.size := by have := S2.out; omega
    clear hz1 hz2 hz3 y0 y1 y2 y3
    go_region
    all_goals (go_wp2_with fail; go_meet; exact ⟨rfl, HW3.out.symm⟩)
  case rest =>
    obtain ⟨rfl, hwc⟩ := hcut
    rw [hwc]
    clear hwc
    clear x0 x1 x2 c1 c2
    go_upto_region 3 with fail
    go_cut [7] from 17 to 23 (fun s wx => ∃ pb, s = .pointer (some ⟨pb, 0, none⟩) ∧ wx.cell? ⟨pb, 0, none⟩ = some (.int .i64 M) ∧ wx.cell? ⟨pb, 1, none⟩ = some (.int .i64 n) ∧ w3.heap.size ≤ pb ∧ pb < wx.heap.size ∧ Below w3.heap.size w3 wx)
    case first =>
      go_region_with (go_at_call 166; refine (HAF.out _).mono ?_; rintro e w4 ⟨rfl, hb4⟩; first | (have q := cellAfter (W := w3) hb4 rfl; obtain ⟨⟨q0, q1⟩, f0, f1⟩ := q) | skip)
      all_goals
        go_wp2_with fail
        go_meet
        first
          | exact ⟨w3.heap.size, rfl, cell_two0 q0, cell_two1 q1, Nat.le_refl _, by have := hb4.size; simp at this ⊢; omega, (((((Below.refl _ w3).alloc (Nat.le_refl _) _).drew.trans (hb4.mono (by simp))).setCell (by simp) _).setCell (by simp) _)⟩
          | exact ⟨w4.heap.size, rfl, by simp, by simp, by have := hb4.size; simpa using this, by simp, (((Below.refl _ w3).drew.trans hb4).alloc (by have := hb4.size; simpa using this) _)⟩
    case rest =>
      obtain ⟨pb, rfl, z0, z1, hpb, hpb2, hwc⟩ := hcut
      have HWC := Lib.hid hwc
      have z2 : wc.cell? ⟨w2.heap.size, 0, none⟩ = some (.int .i64 x) := (hwc.cell (p := ⟨w2.heap.size, 0, none⟩) hz1).trans y0
      have z3 : wc.cell? ⟨w2.heap.size, 1, none⟩ = some (.int .i64 n) := (hwc.cell (p := ⟨w2.heap.size, 1, none⟩) hz1).trans y1
      have F32 := Lib.hid (show Below w2.heap.size w2 wc from F3.out.trans (hwc.mono (by omega)))
      have F22 := Lib.hid (show Below w.heap.size w wc from F12.out.trans (F32.out.mono (by have := S2.out; omega)))
      have R1c := Lib.hid (R1.out.on F32.out (by have := S2.out; omega))
      have R2c := Lib.hid (R2.out.on F32.out (by have := S2.out; omega))
      have HPB := Lib.hid hpb
      have HPB2 := Lib.hid hpb2
      have SC := Lib.hid (show w.heap.size + 4 < wc.heap.size by have := S3.out; omega)
      clear hwc y0 y1 y2 y3 hz1 hz2 hz3 hpb hpb2
      go_wp2
      go_loopg [8] k0 (fun k s wr => ∃ (i q : Nat), i + k = k0 ∧ s = .pointer (some ⟨q, 0, none⟩) ∧ q < wr.heap.size ∧ w.heap.size + 4 < q ∧ Hid (wr.cell? ⟨q, 0, none⟩ = some (.int .i64 ((x + (i : Int)) % n)) ∧ wr.cell? ⟨q, 1, none⟩ = some (.int .i64 n)) ∧ Hid (wr.cell? ⟨pb, 0, none⟩ = some (.int .i64 M) ∧ wr.cell? ⟨pb, 1, none⟩ = some (.int .i64 n) ∧ pb < wr.heap.size) ∧ Hid (RowS (w.heap.size + 1) (List.replicate 30 (.bool false)) wr) ∧ Hid (RowS (w.heap.size + 2) (onRow n x i) wr) ∧ Below w.heap.size w wr)
      case atStart =>
        have FA : Below wc.heap.size wc (wc.alloc (.cells #[.int .i64 x, .int .i64 n] 170)) := (Below.refl _ wc).alloc (Nat.le_refl _) _
        have hx0 : (x + ((0 : Nat) : Int)) % n = x := by rw [Int.natCast_zero, Int.add_zero]; exact Int.emod_eq_of_lt HXY.out.1 HXY.out.2.1
        refine ⟨0, wc.heap.size, by omega, rfl, by simp, SC.out, ⟨by rw [hx0]; simp, by simp⟩, ⟨(FA.cell (p := ⟨pb, 0, none⟩) HPB2.out).trans z0, (FA.cell (p := ⟨pb, 1, none⟩) HPB2.out).trans z1, by have := HPB2.out; simp; omega⟩, R1c.out.on FA (by have := SC.out; omega), ?_, F22.out.alloc F22.out.size _⟩
        rw [onRow_zero]
        exact R2c.out.on FA (by have := SC.out; omega)
      case round =>
        obtain ⟨i, q, hik, rfl, hq, hq4, HQ, HPC, HR1, HR2, hbel⟩ := hrel
        have c0 := HQ.out.1
        have c1 := HQ.out.2
        have d0 := HPC.out.1
        have d1 := HPC.out.2.1
        have hn0 : 0 < n := by have := H3.out; omega
        obtain ⟨p, hp⟩ : ∃ p : Nat, (x + (i : Int)) % n = (p : Int) := ⟨((x + (i : Int)) % n).toNat, by have := Int.emod_nonneg (x + (i : Int)) (show n ≠ 0 by omega); omega⟩
        have hpn : (p : Int) < n := by rw [← hp]; exact Int.emod_lt_of_pos _ hn0
        rw [hp] at c0
        have HPP := Lib.hid hp
        have hp30 : p < 30 := by have := H30.out; omega
        have HPN := Lib.hid hpn
        have HB := Lib.hid hbel
        clear hp hn0 hpn hbel
        by_cases hlt : i < k0
        · have hne : ¬ (p : Int) = M := fun h => mod_ne H3.out H30.out HXY.out.1 HXY.out.2.1 hlt (by rw [← HK0.out]; exact HXY.out.2.2.2) (by rw [HPP.out, h, HMM.out, HK0.out])
          have e0 : ((p : Int) == M) = false := by simp [hne]
          have r0 := HR2.out.cell p _ (onRow_get n x i hp30)
          have f0 := HR2.out.2.1 p
          obtain ⟨B, hB⟩ : ∃ B, B = onB n x i p := ⟨_, rfl⟩
          rw [← hB] at r0
          clear hB hne
          have HS := Lib.hid (show RowS (w.heap.size + 2) (onRow n x (i + 1)) (wr.setCell ⟨w.heap.size + 2, p, none⟩ (.bool true)) by
            have := HR2.out.set p (by rw [onRow_len]; exact hp30) (.bool true)
            rw [onRow_succ n x i HPP.out] at this
            exact this)
          have HR1s := Lib.hid (HR1.out.other (g' := w.heap.size + 2) p (.bool true) (by omega))
          have HPs := Lib.hid (cell_other2 (g' := w.heap.size + 2) p (.bool true) HPC.out.1 HPC.out.2.1 (by have := HPB.out; have := S3.out; omega))
          have sW : (wr.setCell ⟨w.heap.size + 2, p, none⟩ (.bool true)).heap.size = wr.heap.size := by simp
          go_wp2_with fail
          refine (after_is (p : Int) n 1 _ (by omega) HPN.out (by omega) (by have := H3.out; omega) H30.out).mono ?_
          rintro e w5 ⟨rfl, hb5⟩
          have q := cellAfter2 (W := wr.setCell ⟨w.heap.size + 2, p, none⟩ (.bool true)) hb5 rfl
          rw [sW] at q
          obtain ⟨⟨q0, q1⟩, f2, f3⟩ := q
          have HW5 := Lib.hid (show Below wr.heap.size (wr.setCell ⟨w.heap.size + 2, p, none⟩ (.bool true)) w5 from ((Below.refl _ _).alloc (Nat.le_of_eq sW.symm) _).trans (hb5.mono (by simp)))
          have hz5 : wr.heap.size < w5.heap.size := by have := hb5.size; rw [World.size_alloc', sW] at this; omega
          have HNX := Lib.hid (mod_succ (show 0 < n by have := H3.out; omega) HPP.out)
          obtain ⟨P', hP'⟩ : ∃ z : Int, z = ((p : Int) + 1) % n := ⟨_, rfl⟩
          rw [← hP'] at HNX ⊢
          have hgk : 0 < gk := by omega
          clear r0 f0 c0 c1 d0 d1 hb5 hP' hlt
          go_wp2
          go_roundg (gk - 1)
          case rel =>
            have FB : Below wr.heap.size (wr.setCell ⟨w.heap.size + 2, p, none⟩ (.bool true)) ((w5.setCell ⟨wr.heap.size, 0, none⟩ (.int .i64 P')).setCell ⟨wr.heap.size, 1, none⟩ (.int .i64 n)) := (HW5.out.setCell (Nat.le_refl _) _).setCell (Nat.le_refl _) _
            refine ⟨i + 1, wr.heap.size, by omega, rfl, by simp; omega, by omega, ⟨by rw [HNX.out]; exact cell_two0 q0, cell_two1 q1⟩, ⟨(FB.cell (p := ⟨pb, 0, none⟩) HPC.out.2.2).trans HPs.out.1, (FB.cell (p := ⟨pb, 1, none⟩) HPC.out.2.2).trans HPs.out.2, by have := HPC.out.2.2; simp; omega⟩, HR1s.out.on FB (by omega), HS.out.on FB (by omega), ?_⟩
            exact (show Below w.heap.size w (wr.setCell ⟨w.heap.size + 2, p, none⟩ (.bool true)) from HB.out.setCell (show w.heap.size ≤ w.heap.size + 2 by omega) _).trans (FB.mono HB.out.size)
          all_goals omega
        · obtain rfl : i = k0 := by omega
          have hM : (p : Int) = M := by rw [← HPP.out, HMM.out, HK0.out]
          have e0 : ((p : Int) == M) = true := by simp [hM]
          have HF := Lib.hid (show (onRow n x i).toArray.all (·.oneCell') = true from all_oneCell_toArray (fun v hv => by
            unfold onRow at hv
            obtain ⟨a, -, rfl⟩ := List.mem_map.1 hv
            rfl))
          have hu : Try.prog.underlying 150 = some (.array 30 4) := by kernel_rfl
          have hi : (Try.prog.info? 150).map (·.size) = some 30 := by kernel_rfl
          have HU := Lib.hid hu
          have HI := Lib.hid hi
          have HT := Lib.hid (show wr.there (w.heap.size + 1) 0 30 from fun a ha => ⟨by
            have := HR1.out.1.isSome a (by simpa using ha)
            exact this, HR1.out.2.1 _⟩)
          have hsc : (storeCells ⟨w.heap.size + 1, 0, none⟩ (onRow n x i)).run Try.prog wr = .ok () (wr.setCells (w.heap.size + 1) 0 (onRow n x i)) := by
            have := run_storeCells_cells (P := Try.prog) (w.heap.size + 1) 0 (onRow n x i) 0 wr (fun j hj => by simpa using (HT.out j (by simpa [onRow_len] using hj)).1) (fun j hj => by simpa using (HT.out j (by simpa [onRow_len] using hj)).2)
              (fun v hv => by
                unfold onRow at hv
                obtain ⟨a, -, rfl⟩ := List.mem_map.1 hv
                rfl)
            simpa using this
          have HRN := Lib.hid (show (wr.setCells (w.heap.size + 1) 0 (onRow n x i)).rangeAt (w.heap.size + 1) 0 (onRow n x i) from World.rangeAt_setCells_same _ _ _ _ (by rw [onRow_len]; exact HT.out))
          have HBF := Lib.hid (show Below w.heap.size w (wr.setCells (w.heap.size + 1) 0 (onRow n x i)) from below_setCells HB.out _ _ _ (by omega))
          clear hM hu hi hp30 hik hlt
          go_wp2_with (first
            | refine wpList_load_mid rfl 150 (.tmp 5) rfl (w.heap.size + 2) 0 rfl (onRow n x i) (.array 30 4) HR2.out.1 HU.out rfl (by rw [onRow_len]; exact HI.out) ?_)
          have hres := run_loadVar_mid (P := Try.prog) _ (w.heap.size + 1) 0 150 (onRow n x i) (.array 30 4) HRN.out HU.out rfl (by rw [onRow_len]; exact HI.out)
          refine bodyPost_ret (v := .agg (onRow n x i).toArray) (by simp [results, Try.results144, asAddr, hres]) rfl ⟨rfl, HBF.out⟩

end Go.Proofs.Ytpifgmmmmhenmaa
