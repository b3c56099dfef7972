/- Walks over AddEdge and RemoveEdge. -/
import Derived.Test.YtpifgmmmmhenmabDoorG4
import Derived.Deep.RegionLaw
import Derived.RegionTactic
import Derived.ChangeAlike
import Derived.Deep.RegionWith
namespace Go.Proofs.YtpifgmmmmhenmabDoor
set_option linter.unusedVariables false
set_option linter.unusedSimpArgs false
open Go.RowKit

set_option maxHeartbeats 1000000 in
theorem copyOfGraph_any (n : Int) (v : Value) (l : List Int) (w : World) (h : Ints w v l) (hl : l.length ≤ 1048576) :
    Calls Tryd.prog 73 #[.agg #[.int .i64 n, v]] w (GetsG w.heap.size w n l) := by
  obtain ⟨a, cap, rfl, hc, hm⟩ := h.form
  have hmk := fun W : World => run_make_row' (P := Tryd.prog) 22 3 (.int .i64 0) 8 Tryd.underlying22 infoInt rfl .i64 .i64 l.length (by omega) (by omega) W
  have HI := Lib.hid h
  have hsz : (Tryd.prog.info? 3).map (·.size) = some 1 := by kernel_rfl
  clear h
  unfold maxLen at hm
  go_enter Tryd.func73, Tryd.ntmps73
  go_wp2_with (with_reducible refine wpList_copy_ints rfl (.tmp 8) (.tmp 10) 22 22 rfl Tryd.underlying22 hsz (w.heap.size + 1 + 1) l.length l _ rfl rfl (by simpa using World.rowIs_made ((w.alloc _).alloc _) (.int .i64 0) l.length 3) _ rfl (((HI.out.alloc _).alloc _).alloc _) (by omega) (w.heap.size + 2) _ (Below.refl _ _) (by omega) ?_)
  intro w1 ho hb
  have hc0 := hb.cell (p := ⟨w.heap.size, 0, none⟩) (by simp)
  have hc1 := hb.cell (p := ⟨w.heap.size, 1, none⟩) (by simp)
  have hc2 := hb.cell (p := ⟨w.heap.size + 1, 0, none⟩) (by simp)
  have hc3 := hb.cell (p := ⟨w.heap.size + 1, 1, none⟩) (by simp)
  have hf2 := hb.frozen (p := ⟨w.heap.size + 1, 0, none⟩) (by simp)
  have hf3 := hb.frozen (p := ⟨w.heap.size + 1, 1, none⟩) (by simp)
  have HO := Lib.hid ho
  have HB := Lib.hid (((((Below.refl _ w).alloc (Nat.le_refl _) _).alloc (by simp) _).alloc (by simp <;> omega) _).trans (hb.mono (by omega)))
  clear ho hb hmk
  go_wp2
  refine bodyPost_ret (v := .agg #[.int .i64 n, .slice (some ⟨w.heap.size + 1 + 1, 0, none⟩) l.length l.length]) (by simp [results, Tryd.results73, go_sem, hc2, hc3]) rfl ⟨_, rfl, ?_, ?_⟩
  · exact ((HO.out.setBelow (by simp) _).setBelow (by simp) _).mono (by omega)
  · exact (HB.out.setCell (by simp) _).setCell (by simp) _

def flip (x : Int) (j : Nat) : Int := if bitAt x j = 0 then x + 2 ^ j else x - 2 ^ j

theorem flip_small (x : Int) (j : Nat) (h0 : 0 ≤ x) (h1 : x < 128) (hj : j < 7) : bits .xor .i64 x (2 ^ j) = flip x j ∧ 0 ≤ flip x j ∧ flip x j < 128 := by
  obtain ⟨k, rfl⟩ := Int.eq_ofNat_of_zero_le h0
  have : ∀ (k : Fin 128) (j : Fin 7), bits .xor .i64 ((k.val : Nat) : Int) (2 ^ j.val) = flip ((k.val : Nat) : Int) j.val ∧ 0 ≤ flip ((k.val : Nat) : Int) j.val ∧ flip ((k.val : Nat) : Int) j.val < 128 := by decide +kernel
  exact this ⟨k, by omega⟩ ⟨j, hj⟩

theorem shl_one' (j : Nat) (h1 : j ≤ 7) : IntKind.i64.wrap (1 * 2 ^ j) = 2 ^ j ∧ wrap64 (1 * 2 ^ j) = 2 ^ j ∧ wrap64 (2 ^ j) = 2 ^ j ∧ (2 : Int) ^ j ≤ 128 ∧ 1 ≤ (2 : Int) ^ j := by
  have := shl_one (j : Int) (by omega) (by omega)
  simp only [Int.toNat_natCast] at this
  obtain ⟨a, b, c, d, e⟩ := this
  exact ⟨a, b, c, d, by omega⟩

/-- Both rows of a pair turned. -/
def flipE (l : List Int) (i j : Nat) : List Int := (l.set i (flip (nth l i) j)).set j (flip (nth l j) i)

theorem flipE_length (l : List Int) (i j : Nat) : (flipE l i j).length = l.length := by simp [flipE]

def Small (l : List Int) : Prop := ∀ i, i < l.length → 0 ≤ nth l i ∧ nth l i < 128

set_option maxHeartbeats 1000000 in
set_option maxRecDepth 100000 in
theorem turnEdge_any (B q g cap : Nat) (n : Int) (l : List Int) (i j : Nat) (w : World) (hq0 : w.cell? ⟨q, 0, none⟩ = some (.int .i64 n)) (hq1 : w.cell? ⟨q, 1, none⟩ = some (.slice (some ⟨g, 0, none⟩) l.length cap)) (hqg : q ≠ g)
    (h : OwnI B w (.slice (some ⟨g, 0, none⟩) l.length cap) l) (hi : i < l.length) (hj : j < l.length) (hij : i ≠ j) (hs : Small l) (hl : l.length ≤ 7) :
    Calls Tryd.prog 88 #[.pointer (some ⟨q, 0, none⟩), .int .i64 i, .int .i64 j] w fun e w' => e = .returned (.tuple #[]) ∧ OwnI B w' (.slice (some ⟨g, 0, none⟩) l.length cap) (flipE l i j) ∧ w.grownBy w' (some g) := by
  rcases h.form with ⟨h', -⟩ | ⟨g', cap', hv, hBg, hg, hc, hm, hcell, hfr⟩
  · cases h'
  simp only [Value.slice.injEq, Option.some.injEq, Addr.mk.injEq] at hv
  obtain ⟨⟨rfl, -⟩, -, rfl⟩ := hv
  obtain ⟨x, hx⟩ : ∃ x, x = nth l i := ⟨_, rfl⟩
  obtain ⟨y, hy⟩ : ∃ y, y = nth l j := ⟨_, rfl⟩
  have c1 := hcell i hi
  have c2 := hcell j hj
  rw [← hx] at c1
  rw [← hy] at c2
  have f1 := hfr i
  have f2 := hfr j
  have hsi := hs i hi
  have hsj := hs j hj
  rw [← hx] at hsi
  rw [← hy] at hsj
  obtain ⟨X, hX, z1, z2, z3⟩ : ∃ X, X = flip x j ∧ bits .xor .i64 x (2 ^ j) = X ∧ 0 ≤ X ∧ X < 128 := ⟨_, rfl, flip_small x j hsi.1 hsi.2 (by omega)⟩
  obtain ⟨Y, hY, z4, z5, z6⟩ : ∃ Y, Y = flip y i ∧ bits .xor .i64 y (2 ^ i) = Y ∧ 0 ≤ Y ∧ Y < 128 := ⟨_, rfl, flip_small y i hsj.1 hsj.2 (by omega)⟩
  obtain ⟨P, ep, p1, p2⟩ : ∃ P, (2 : Int) ^ j = P ∧ 1 ≤ P ∧ P ≤ 128 := ⟨_, rfl, (shl_one' j (by omega)).2.2.2.2, (shl_one' j (by omega)).2.2.2.1⟩
  obtain ⟨Q, eq, q1, q2⟩ : ∃ Q, (2 : Int) ^ i = Q ∧ 1 ≤ Q ∧ Q ≤ 128 := ⟨_, rfl, (shl_one' i (by omega)).2.2.2.2, (shl_one' i (by omega)).2.2.2.1⟩
  rw [ep] at z1
  rw [eq] at z4
  have o1 := h.set i X (by omega) (by omega)
  have o2 := OwnI.set (l := l.set i X) (by simpa using o1.1) j Y (by omega) (by omega)
  have HE : Hid (flipE l i j = (l.set i X).set j Y) := by rw [hX, hY, hx, hy]; rfl
  have O1 := Lib.hid o1
  have O2 := Lib.hid o2
  clear o1 o2 h hcell hfr hs hx hy hX hY hsi hsj
  have w1 : IntKind.i64.wrap (1 * P) = P := IntWalk.i64_in _ (by omega) |>.trans (by omega)
  have w2 : IntKind.i64.wrap P = P := IntWalk.i64_in _ (by omega)
  have w3 : IntKind.i64.wrap (1 * Q) = Q := IntWalk.i64_in _ (by omega) |>.trans (by omega)
  have w4 : IntKind.i64.wrap Q = Q := IntWalk.i64_in _ (by omega)
  have hji : j ≠ i := fun h => hij h.symm
  have hgq : g ≠ q := fun h => hqg h.symm
  go_enter Tryd.func88, Tryd.ntmps88
  go_wp2
  go_region_law (fail)
  go_wp2
  go_region_law (fail)
  go_wp2
  go_end0
  have e2 := O2.out
  rw [← HE.out] at e2
  refine ⟨rfl, ?_, ?_⟩
  · have := e2.1
    rw [List.length_set] at this
    exact this
  · have gg := grown_trans O1.out.2 e2.2
    exact ⟨gg.os, gg.tape, gg.output, gg.size, gg.block⟩

theorem IsG.small {n : Int} {l : List Int} (h : IsG n l) : Small l := fun i hi => by
  obtain ⟨h1, h7, hl, hr⟩ := h
  have := (hr i hi).1
  refine ⟨this.1, ?_⟩
  obtain ⟨-, -, -, s4, s5⟩ := shl_one n (by omega) h7
  have h2 := Int.emod_lt_of_pos (nth l i) (show 0 < (2 : Int) ^ n.toNat by omega)
  have h3 := Int.emod_add_mul_ediv (nth l i) (2 ^ n.toNat)
  rw [this.2.1] at h3
  omega

/-- A graph and a flag. -/
def GetsGB (B : Nat) (w : World) (n : Int) (l : List Int) (b : Bool) (e : Ending) (w' : World) : Prop := ∃ v, e = .returned (.tuple #[.agg #[.int .i64 n, v], .bool b]) ∧ OwnI B w' v l ∧ Below w.heap.size w w'

/-- When an edge can be added; when one can be taken out. -/
def AddOk (n : Int) (l : List Int) (x y : Int) : Prop := IsG n l ∧ (0 ≤ x ∧ x < n) ∧ (0 ≤ y ∧ y < n) ∧ x ≠ y ∧ edB l x.toNat y.toNat = false

set_option maxHeartbeats 2000000 in
set_option maxRecDepth 100000 in
theorem implAddEdge_no (n : Int) (v : Value) (l : List Int) (x y : Int) (w : World) (h : Ints w v l) (hl : l.length ≤ 1048576) (hno : ¬ AddOk n l x y) :
    Calls Tryd.prog 74 #[.agg #[.int .i64 n, v], .int .i64 x, .int .i64 y] w (GetsGB w.heap.size w n l false) := by
  obtain ⟨a, cap, rfl, -, -⟩ := h.form
  have HI := Lib.hid h
  have HNO := Lib.hid hno
  clear hno
  clear h
  go_enter Tryd.func74, Tryd.ntmps74
  go_wp2_with fail
  refine (copyOfGraph_any n _ l _ ((HI.out.alloc _).alloc _) hl).mono ?_
  rintro e w1 ⟨v1, rfl, ho, hb⟩
  have HB := Lib.hid ((((Below.refl _ w).alloc (Nat.le_refl _) _).alloc (by simp) _).trans (hb.mono (by simp <;> omega)))
  have hz1 : w.heap.size + 2 ≤ w1.heap.size := by have := hb.size; simp at this; omega
  obtain ⟨a1, cap1, rfl, -, -⟩ := ho.ints.form
  have HF : Hid (∀ wr, Below (w1.heap.size + 1) (w1.alloc (.cells #[.int .i64 n, .slice a1 l.length cap1] 28)) wr →
      wr.cell? ⟨w.heap.size, 0, none⟩ = some (.int .i64 n) ∧ wr.cell? ⟨w.heap.size, 1, none⟩ = some (.slice a l.length cap) ∧
      wr.cell? ⟨w.heap.size + 1, 0, none⟩ = some (.int .i64 0) ∧ wr.cell? ⟨w.heap.size + 1, 1, none⟩ = some (.slice none 0 0) ∧ wr.frozen? ⟨w.heap.size + 1, 0, none⟩ = false ∧ wr.frozen? ⟨w.heap.size + 1, 1, none⟩ = false ∧
      wr.cell? ⟨w1.heap.size, 0, none⟩ = some (.int .i64 n) ∧ wr.cell? ⟨w1.heap.size, 1, none⟩ = some (.slice a1 l.length cap1) ∧
      Ints wr (.slice a l.length cap) l ∧ OwnI (w.heap.size + 2) wr (.slice a1 l.length cap1) l ∧ Below w.heap.size w wr ∧ w.heap.size + 2 ≤ w1.heap.size ∧ w1.heap.size < wr.heap.size) := fun wr hr => by
    have hs := hr.size
    simp at hs
    have hbl : ∀ b, b < w.heap.size + 2 → wr.heap[b]? = ((w.alloc (.cells #[.int .i64 n, .slice a l.length cap] 28)).alloc (.cells #[.int .i64 0, .slice none 0 0] 28)).heap[b]? := fun b hb' => by
      rw [hr.block b (by omega), Below.heap_alloc w1 _ b (by omega), hb.block b (by simp; omega)]
    have e1 : ∀ o, wr.cell? ⟨w.heap.size, o, none⟩ = ((w.alloc (.cells #[.int .i64 n, .slice a l.length cap] 28)).alloc (.cells #[.int .i64 0, .slice none 0 0] 28)).cell? ⟨w.heap.size, o, none⟩ := fun o => World.cell?_of_block (hbl w.heap.size (by omega))
    have e2 : ∀ o, wr.cell? ⟨w.heap.size + 1, o, none⟩ = ((w.alloc (.cells #[.int .i64 n, .slice a l.length cap] 28)).alloc (.cells #[.int .i64 0, .slice none 0 0] 28)).cell? ⟨w.heap.size + 1, o, none⟩ := fun o => World.cell?_of_block (hbl (w.heap.size + 1) (by omega))
    have e3 : ∀ o, wr.frozen? ⟨w.heap.size + 1, o, none⟩ = ((w.alloc (.cells #[.int .i64 n, .slice a l.length cap] 28)).alloc (.cells #[.int .i64 0, .slice none 0 0] 28)).frozen? ⟨w.heap.size + 1, o, none⟩ := fun o => World.frozen?_of_block (hbl (w.heap.size + 1) (by omega))
    refine ⟨by rw [e1]; simp [go_sem], by rw [e1]; simp [go_sem], by rw [e2]; simp [go_sem], by rw [e2]; simp [go_sem], by rw [e3]; simp [go_sem], by rw [e3]; simp [go_sem], ?_, ?_, ?_, ?_, ?_, hz1, by omega⟩
    · rw [hr.cell (p := ⟨w1.heap.size, 0, none⟩) (by simp)]; simp [go_sem]
    · rw [hr.cell (p := ⟨w1.heap.size, 1, none⟩) (by simp)]; simp [go_sem]
    · exact ((((HI.out.alloc _).alloc _).on hb).alloc _).below hr (by simp)
    · have := (ho.alloc (.cells #[.int .i64 n, .slice a1 l.length cap1] 28)).on (hr.mono (by simp))
      exact this.mono (by simp)
    · exact ((HB.out.alloc (by omega) _).trans (hr.mono (by omega)))
  have HO := Lib.hid ho
  clear ho hb
  have HB1 := Lib.hid (Below.refl (w1.heap.size + 1) (w1.alloc (.cells #[.int .i64 n, .slice a1 l.length cap1] 28)))
  obtain ⟨k0, k1, k2, k3, k4, k5, k6, k7, -, -, -, -, hz⟩ := HF.out _ HB1.out
  clear k2 k3 k4 k5 k6 k7 hz1
  go_wp2_with fail
  refine (implIsG_any n _ l _ (HF.out _ HB1.out).2.2.2.2.2.2.2.2.1).mono ?_
  rintro e w2 ⟨r, rfl, hr, hb⟩
  have HB2 := Lib.hid (HB1.out.trans (hb.mono hz))
  clear hb k0 k1 hz
  cases r with
  | false =>
    clear hr
    obtain ⟨k0, k1, k2, k3, k4, k5, k6, k7, -, -, -, -, hz⟩ := HF.out _ HB2.out
    go_wp2
    refine bodyPost_ret (v := .tuple #[.agg #[.int .i64 n, .slice a1 l.length cap1], .bool false]) (by simp [results, Tryd.results74, go_sem, k2, k3, k4, k5, k6, k7, hz]) rfl ⟨_, rfl, ?_, ?_⟩
    · exact ((((HF.out _ HB2.out).2.2.2.2.2.2.2.2.2.1).setBelow (by simp <;> omega) _).setBelow (by simp <;> omega) _).mono (by omega)
    · exact ((HF.out _ HB2.out).2.2.2.2.2.2.2.2.2.2.1.setCell (by simp) _).setCell (by simp) _
  | true =>
    have HG := Lib.hid (hr.1 rfl)
    clear hr
    obtain ⟨k0, k1, -, -, -, -, -, -, -, -, -, -, hz⟩ := HF.out _ HB2.out
    go_wp2_with fail
    by_cases hx : 0 ≤ x ∧ x < n
    · refine (hasVertex_yes n _ l _ _ (HF.out _ HB2.out).2.2.2.2.2.2.2.2.1 hx.1 hx.2).mono ?_
      rintro e w3 ⟨rfl, hb⟩
      have HB3 := Lib.hid (HB2.out.trans (hb.mono hz))
      have HX := Lib.hid hx
      clear hb hx k0 k1 hz
      obtain ⟨k0, k1, -, -, -, -, -, -, -, -, -, -, hz⟩ := HF.out _ HB3.out
      go_wp2_with fail
      by_cases hy : 0 ≤ y ∧ y < n
      · refine (hasVertex_yes n _ l _ _ (HF.out _ HB3.out).2.2.2.2.2.2.2.2.1 hy.1 hy.2).mono ?_
        rintro e w4 ⟨rfl, hb⟩
        have HB4 := Lib.hid (HB3.out.trans (hb.mono hz))
        have HY := Lib.hid hy
        clear hb hy k0 k1 hz
        obtain ⟨k0, k1, -, -, -, -, -, -, -, -, -, -, hz⟩ := HF.out _ HB4.out
        by_cases hxy : x = y
        · have hq : (x == y) = true := by simp [hxy]
          have HXY := Lib.hid hxy
          clear hxy k0 k1 hz
          obtain ⟨k0, k1, k2, k3, k4, k5, k6, k7, -, -, -, -, hz⟩ := HF.out _ HB4.out
          go_wp2
          refine bodyPost_ret (v := .tuple #[.agg #[.int .i64 n, .slice a1 l.length cap1], .bool false]) (by simp [results, Tryd.results74, go_sem, k2, k3, k4, k5, k6, k7, hz]) rfl ⟨_, rfl, ?_, ?_⟩
          · exact ((((HF.out _ HB4.out).2.2.2.2.2.2.2.2.2.1).setBelow (by simp <;> omega) _).setBelow (by simp <;> omega) _).mono (by omega)
          · exact ((HF.out _ HB4.out).2.2.2.2.2.2.2.2.2.2.1.setCell (by simp) _).setCell (by simp) _
        · have hq : (x == y) = false := by simp [hxy]
          have HXY := Lib.hid hxy
          clear hxy
          go_wp2_with fail
          refine (implHasEdge n _ l x y _ (HF.out _ HB4.out).2.2.2.2.2.2.2.2.1).mono ?_
          rintro e w5 ⟨r, rfl, hr, hb⟩
          have HB5 := Lib.hid (HB4.out.trans (hb.mono hz))
          clear hb k0 k1 hz
          obtain rfl : r = true := by
            cases r with
            | true => rfl
            | false =>
              exfalso
              refine HNO.out ⟨HG.out, HX.out, HY.out, HXY.out, ?_⟩
              cases he : edB l x.toNat y.toNat with
              | false => rfl
              | true => have := hr.2 ⟨HG.out, HX.out, HY.out, he⟩; simp at this
          clear hr
          obtain ⟨k0, k1, k2, k3, k4, k5, k6, k7, -, -, -, -, hz⟩ := HF.out _ HB5.out
          go_wp2
          refine bodyPost_ret (v := .tuple #[.agg #[.int .i64 n, .slice a1 l.length cap1], .bool false]) (by simp [results, Tryd.results74, go_sem, k2, k3, k4, k5, k6, k7, hz]) rfl ⟨_, rfl, ?_, ?_⟩
          · exact ((((HF.out _ HB5.out).2.2.2.2.2.2.2.2.2.1).setBelow (by simp <;> omega) _).setBelow (by simp <;> omega) _).mono (by omega)
          · exact ((HF.out _ HB5.out).2.2.2.2.2.2.2.2.2.2.1.setCell (by simp) _).setCell (by simp) _
      · refine (hasVertex_no n _ l _ _ (HF.out _ HB3.out).2.2.2.2.2.2.2.2.1 hy).mono ?_
        rintro e w4 ⟨rfl, hb⟩
        have HB4 := Lib.hid (HB3.out.trans (hb.mono hz))
        clear hb hy k0 k1 hz
        obtain ⟨k0, k1, k2, k3, k4, k5, k6, k7, -, -, -, -, hz⟩ := HF.out _ HB4.out
        go_wp2
        refine bodyPost_ret (v := .tuple #[.agg #[.int .i64 n, .slice a1 l.length cap1], .bool false]) (by simp [results, Tryd.results74, go_sem, k2, k3, k4, k5, k6, k7, hz]) rfl ⟨_, rfl, ?_, ?_⟩
        · exact ((((HF.out _ HB4.out).2.2.2.2.2.2.2.2.2.1).setBelow (by simp <;> omega) _).setBelow (by simp <;> omega) _).mono (by omega)
        · exact ((HF.out _ HB4.out).2.2.2.2.2.2.2.2.2.2.1.setCell (by simp) _).setCell (by simp) _
    · refine (hasVertex_no n _ l _ _ (HF.out _ HB2.out).2.2.2.2.2.2.2.2.1 hx).mono ?_
      rintro e w3 ⟨rfl, hb⟩
      have HB3 := Lib.hid (HB2.out.trans (hb.mono hz))
      clear hb hx k0 k1 hz
      obtain ⟨k0, k1, k2, k3, k4, k5, k6, k7, -, -, -, -, hz⟩ := HF.out _ HB3.out
      go_wp2
      refine bodyPost_ret (v := .tuple #[.agg #[.int .i64 n, .slice a1 l.length cap1], .bool false]) (by simp [results, Tryd.results74, go_sem, k2, k3, k4, k5, k6, k7, hz]) rfl ⟨_, rfl, ?_, ?_⟩
      · exact ((((HF.out _ HB3.out).2.2.2.2.2.2.2.2.2.1).setBelow (by simp <;> omega) _).setBelow (by simp <;> omega) _).mono (by omega)
      · exact ((HF.out _ HB3.out).2.2.2.2.2.2.2.2.2.2.1.setCell (by simp) _).setCell (by simp) _

set_option maxHeartbeats 2000000 in
set_option maxRecDepth 100000 in
theorem implAddEdge_yes (n : Int) (v : Value) (l : List Int) (x y : Int) (w : World) (h : Ints w v l) (hl : l.length ≤ 1048576) (hok : AddOk n l x y) :
    Calls Tryd.prog 74 #[.agg #[.int .i64 n, v], .int .i64 x, .int .i64 y] w (GetsGB w.heap.size w n (flipE l x.toNat y.toNat) true) := by
  obtain ⟨a, cap, rfl, -, -⟩ := h.form
  have HI := Lib.hid h
  have HOK := Lib.hid hok
  clear hok
  clear h
  go_enter Tryd.func74, Tryd.ntmps74
  go_wp2_with fail
  refine (copyOfGraph_any n _ l _ ((HI.out.alloc _).alloc _) hl).mono ?_
  rintro e w1 ⟨v1, rfl, ho, hb⟩
  have HB := Lib.hid ((((Below.refl _ w).alloc (Nat.le_refl _) _).alloc (by simp) _).trans (hb.mono (by simp <;> omega)))
  have hz1 : w.heap.size + 2 ≤ w1.heap.size := by have := hb.size; simp at this; omega
  obtain ⟨a1, cap1, rfl, -, -⟩ := ho.ints.form
  have HF : Hid (∀ wr, Below (w1.heap.size + 1) (w1.alloc (.cells #[.int .i64 n, .slice a1 l.length cap1] 28)) wr →
      wr.cell? ⟨w.heap.size, 0, none⟩ = some (.int .i64 n) ∧ wr.cell? ⟨w.heap.size, 1, none⟩ = some (.slice a l.length cap) ∧
      wr.cell? ⟨w.heap.size + 1, 0, none⟩ = some (.int .i64 0) ∧ wr.cell? ⟨w.heap.size + 1, 1, none⟩ = some (.slice none 0 0) ∧ wr.frozen? ⟨w.heap.size + 1, 0, none⟩ = false ∧ wr.frozen? ⟨w.heap.size + 1, 1, none⟩ = false ∧
      wr.cell? ⟨w1.heap.size, 0, none⟩ = some (.int .i64 n) ∧ wr.cell? ⟨w1.heap.size, 1, none⟩ = some (.slice a1 l.length cap1) ∧
      Ints wr (.slice a l.length cap) l ∧ OwnI (w.heap.size + 2) wr (.slice a1 l.length cap1) l ∧ Below w.heap.size w wr ∧ w.heap.size + 2 ≤ w1.heap.size ∧ w1.heap.size < wr.heap.size) := fun wr hr => by
    have hs := hr.size
    simp at hs
    have hbl : ∀ b, b < w.heap.size + 2 → wr.heap[b]? = ((w.alloc (.cells #[.int .i64 n, .slice a l.length cap] 28)).alloc (.cells #[.int .i64 0, .slice none 0 0] 28)).heap[b]? := fun b hb' => by
      rw [hr.block b (by omega), Below.heap_alloc w1 _ b (by omega), hb.block b (by simp; omega)]
    have e1 : ∀ o, wr.cell? ⟨w.heap.size, o, none⟩ = ((w.alloc (.cells #[.int .i64 n, .slice a l.length cap] 28)).alloc (.cells #[.int .i64 0, .slice none 0 0] 28)).cell? ⟨w.heap.size, o, none⟩ := fun o => World.cell?_of_block (hbl w.heap.size (by omega))
    have e2 : ∀ o, wr.cell? ⟨w.heap.size + 1, o, none⟩ = ((w.alloc (.cells #[.int .i64 n, .slice a l.length cap] 28)).alloc (.cells #[.int .i64 0, .slice none 0 0] 28)).cell? ⟨w.heap.size + 1, o, none⟩ := fun o => World.cell?_of_block (hbl (w.heap.size + 1) (by omega))
    have e3 : ∀ o, wr.frozen? ⟨w.heap.size + 1, o, none⟩ = ((w.alloc (.cells #[.int .i64 n, .slice a l.length cap] 28)).alloc (.cells #[.int .i64 0, .slice none 0 0] 28)).frozen? ⟨w.heap.size + 1, o, none⟩ := fun o => World.frozen?_of_block (hbl (w.heap.size + 1) (by omega))
    refine ⟨by rw [e1]; simp [go_sem], by rw [e1]; simp [go_sem], by rw [e2]; simp [go_sem], by rw [e2]; simp [go_sem], by rw [e3]; simp [go_sem], by rw [e3]; simp [go_sem], ?_, ?_, ?_, ?_, ?_, hz1, by omega⟩
    · rw [hr.cell (p := ⟨w1.heap.size, 0, none⟩) (by simp)]; simp [go_sem]
    · rw [hr.cell (p := ⟨w1.heap.size, 1, none⟩) (by simp)]; simp [go_sem]
    · exact ((((HI.out.alloc _).alloc _).on hb).alloc _).below hr (by simp)
    · have := (ho.alloc (.cells #[.int .i64 n, .slice a1 l.length cap1] 28)).on (hr.mono (by simp))
      exact this.mono (by simp)
    · exact ((HB.out.alloc (by omega) _).trans (hr.mono (by omega)))
  have HO := Lib.hid ho
  clear ho hb
  have HB1 := Lib.hid (Below.refl (w1.heap.size + 1) (w1.alloc (.cells #[.int .i64 n, .slice a1 l.length cap1] 28)))
  obtain ⟨k0, k1, k2, k3, k4, k5, k6, k7, -, -, -, -, hz⟩ := HF.out _ HB1.out
  clear k2 k3 k4 k5 k6 k7 hz1
  go_wp2_with fail
  refine (implIsG_any n _ l _ (HF.out _ HB1.out).2.2.2.2.2.2.2.2.1).mono ?_
  rintro e w2 ⟨r, rfl, hr, hb⟩
  obtain rfl : r = true := hr.2 HOK.out.1
  have HB2 := Lib.hid (HB1.out.trans (hb.mono hz))
  clear hb k0 k1 hz hr
  obtain ⟨k0, k1, -, -, -, -, -, -, -, -, -, -, hz⟩ := HF.out _ HB2.out
  go_wp2_with fail
  refine (hasVertex_yes n _ l _ _ (HF.out _ HB2.out).2.2.2.2.2.2.2.2.1 HOK.out.2.1.1 HOK.out.2.1.2).mono ?_
  rintro e w3 ⟨rfl, hb⟩
  have HB3 := Lib.hid (HB2.out.trans (hb.mono hz))
  clear hb k0 k1 hz
  obtain ⟨k0, k1, -, -, -, -, -, -, -, -, -, -, hz⟩ := HF.out _ HB3.out
  go_wp2_with fail
  refine (hasVertex_yes n _ l _ _ (HF.out _ HB3.out).2.2.2.2.2.2.2.2.1 HOK.out.2.2.1.1 HOK.out.2.2.1.2).mono ?_
  rintro e w4 ⟨rfl, hb⟩
  have HB4 := Lib.hid (HB3.out.trans (hb.mono hz))
  clear hb k0 k1 hz
  obtain ⟨k0, k1, -, -, -, -, -, -, -, -, -, -, hz⟩ := HF.out _ HB4.out
  have hq : (x == y) = false := by simp [HOK.out.2.2.2.1]
  go_wp2_with fail
  refine (implHasEdge n _ l x y _ (HF.out _ HB4.out).2.2.2.2.2.2.2.2.1).mono ?_
  rintro e w5 ⟨r, rfl, hr, hb⟩
  have HB5 := Lib.hid (HB4.out.trans (hb.mono hz))
  obtain rfl : r = false := by
    cases r with
    | false => rfl
    | true => have := (hr.1 rfl).2.2.2; rw [HOK.out.2.2.2.2] at this; simp at this
  clear hb k0 k1 hz hr
  obtain ⟨i, rfl⟩ := Int.eq_ofNat_of_zero_le HOK.out.2.1.1
  obtain ⟨j, rfl⟩ := Int.eq_ofNat_of_zero_le HOK.out.2.2.1.1
  have hgl := HOK.out.1.2.2.1
  have hx := HOK.out.2.1.2
  have hy := HOK.out.2.2.1.2
  have hn7 := HOK.out.1.2.1
  have hi : i < l.length := by omega
  have hj : j < l.length := by omega
  have hl7 : l.length ≤ 7 := by omega
  have hij : i ≠ j := fun h => HOK.out.2.2.2.1 (by rw [h])
  obtain ⟨k0, k1, k2, k3, k4, k5, k6, k7, ki, ko, kb, kz, hz⟩ := HF.out _ HB5.out
  rcases ko.form with ⟨hv, -⟩ | ⟨g, cap', hv, hBg, hg, -⟩
  · simp only [Value.slice.injEq] at hv
    omega
  simp only [Value.slice.injEq] at hv
  obtain ⟨rfl, -, rfl⟩ := hv
  have hgq : w1.heap.size ≠ g := by
    have := (HO.out.lt g rfl).2
    omega
  have HL := Lib.hid hgl
  have KO := Lib.hid ko
  have KB := Lib.hid kb
  clear hgl hx hy ki ko kb
  go_wp2_with fail
  refine (turnEdge_any (w.heap.size + 2) w1.heap.size g cap1 n l i j w5 k6 k7 hgq KO.out hi hj hij HOK.out.1.small hl7).mono ?_
  rintro e w6 ⟨rfl, ho6, hg6⟩
  obtain ⟨hc6, hf6⟩ := gcell hg6
  have h1 : w.heap.size + 1 < w5.heap.size := by omega
  have n1 : w.heap.size + 1 ≠ g := by omega
  have n2 : w.heap.size ≠ g := by omega
  have m2 : w6.cell? ⟨w.heap.size + 1, 0, none⟩ = some (.int .i64 0) := by rw [hc6 _ _ h1 (by simp; omega)]; exact k2
  have m3 : w6.cell? ⟨w.heap.size + 1, 1, none⟩ = some (.slice none 0 0) := by rw [hc6 _ _ h1 (by simp; omega)]; exact k3
  have m4 : w6.frozen? ⟨w.heap.size + 1, 0, none⟩ = false := by rw [hf6 _ _ h1 (by simp; omega)]; exact k4
  have m5 : w6.frozen? ⟨w.heap.size + 1, 1, none⟩ = false := by rw [hf6 _ _ h1 (by simp; omega)]; exact k5
  have m6 : w6.cell? ⟨w1.heap.size, 0, none⟩ = some (.int .i64 n) := by rw [hc6 _ _ hz (by simpa using hgq)]; exact k6
  have m7 : w6.cell? ⟨w1.heap.size, 1, none⟩ = some (.slice (some ⟨g, 0, none⟩) l.length cap1) := by rw [hc6 _ _ hz (by simpa using hgq)]; exact k7
  have HO6 := Lib.hid ho6
  have HB6 := Lib.hid (KB.out.grown hg6 (by omega) (fun k hk => by have := Option.some.inj hk; omega))
  have hz6 : w1.heap.size < w6.heap.size := by have := hg6.size; omega
  clear hc6 hf6 hg6 ho6 k0 k1 k2 k3 k4 k5 k6 k7
  go_wp2
  refine bodyPost_ret (v := .tuple #[.agg #[.int .i64 n, .slice (some ⟨g, 0, none⟩) l.length cap1], .bool true]) (by simp [results, Tryd.results74, go_sem, m2, m3, m4, m5, m6, m7]) rfl ⟨_, rfl, ?_, ?_⟩
  · have := HO6.out
    exact ((this.setBelow (by simp <;> omega) _).setBelow (by simp <;> omega) _).mono (by omega)
  · exact (HB6.out.setCell (by simp) _).setCell (by simp) _

end Go.Proofs.YtpifgmmmmhenmabDoor
