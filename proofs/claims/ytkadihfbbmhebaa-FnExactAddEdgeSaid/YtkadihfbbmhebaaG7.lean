/- Walks over the program's RemoveEdge. -/
import Derived.Test.YtkadihfbbmhebaaG6
namespace Go.Proofs.Ytkadihfbbmhebaa
open Go.RowKit

set_option maxHeartbeats 2000000 in
set_option maxRecDepth 100000 in
theorem implRemoveEdge_no (n : Int) (v : Value) (l : List Int) (x y : Int) (w : World) (h : Ints w v l) (hl : l.length ≤ 1048576) (hno : ¬ HasE n l x y) :
    Calls Try.prog 23 #[.agg #[.int .i64 n, v], .int .i64 x, .int .i64 y] w (GetsGB w.heap.size w n l false) := by
  obtain ⟨a, cap, rfl, -, -⟩ := h.form
  have HI := Lib.hid h
  have HNO := Lib.hid hno
  clear hno
  clear h
  go_enter Try.func23, Try.ntmps23
  go_wp2_with fail
  refine (copyOfGraph_any n _ l _ ((HI.out.alloc _).alloc _) hl).mono ?_
  rintro e w1 ⟨v1, rfl, ho, hb⟩
  have HB := Lib.hid ((((Below.refl _ w).alloc (Nat.le_refl _) _).alloc (by simp) _).trans (hb.mono (by simp <;> omega)))
  have hz1 : w.heap.size + 2 ≤ w1.heap.size := by have := hb.size; simp at this; omega
  obtain ⟨a1, cap1, rfl, -, -⟩ := ho.ints.form
  have HF : Hid (∀ wr, Below (w1.heap.size + 1) (w1.alloc (.cells #[.int .i64 n, .slice a1 l.length cap1] 27)) wr →
      wr.cell? ⟨w.heap.size, 0, none⟩ = some (.int .i64 n) ∧ wr.cell? ⟨w.heap.size, 1, none⟩ = some (.slice a l.length cap) ∧
      wr.cell? ⟨w.heap.size + 1, 0, none⟩ = some (.int .i64 0) ∧ wr.cell? ⟨w.heap.size + 1, 1, none⟩ = some (.slice none 0 0) ∧ wr.frozen? ⟨w.heap.size + 1, 0, none⟩ = false ∧ wr.frozen? ⟨w.heap.size + 1, 1, none⟩ = false ∧
      wr.cell? ⟨w1.heap.size, 0, none⟩ = some (.int .i64 n) ∧ wr.cell? ⟨w1.heap.size, 1, none⟩ = some (.slice a1 l.length cap1) ∧
      Ints wr (.slice a l.length cap) l ∧ OwnI (w.heap.size + 2) wr (.slice a1 l.length cap1) l ∧ Below w.heap.size w wr ∧ w.heap.size + 2 ≤ w1.heap.size ∧ w1.heap.size < wr.heap.size) := fun wr hr => by
    have hs := hr.size
    simp at hs
    have hbl : ∀ b, b < w.heap.size + 2 → wr.heap[b]? = ((w.alloc (.cells #[.int .i64 n, .slice a l.length cap] 27)).alloc (.cells #[.int .i64 0, .slice none 0 0] 27)).heap[b]? := fun b hb' => by
      rw [hr.block b (by omega), Below.heap_alloc w1 _ b (by omega), hb.block b (by simp; omega)]
    have e1 : ∀ o, wr.cell? ⟨w.heap.size, o, none⟩ = ((w.alloc (.cells #[.int .i64 n, .slice a l.length cap] 27)).alloc (.cells #[.int .i64 0, .slice none 0 0] 27)).cell? ⟨w.heap.size, o, none⟩ := fun o => World.cell?_of_block (hbl w.heap.size (by omega))
    have e2 : ∀ o, wr.cell? ⟨w.heap.size + 1, o, none⟩ = ((w.alloc (.cells #[.int .i64 n, .slice a l.length cap] 27)).alloc (.cells #[.int .i64 0, .slice none 0 0] 27)).cell? ⟨w.heap.size + 1, o, none⟩ := fun o => World.cell?_of_block (hbl (w.heap.size + 1) (by omega))
    have e3 : ∀ o, wr.frozen? ⟨w.heap.size + 1, o, none⟩ = ((w.alloc (.cells #[.int .i64 n, .slice a l.length cap] 27)).alloc (.cells #[.int .i64 0, .slice none 0 0] 27)).frozen? ⟨w.heap.size + 1, o, none⟩ := fun o => World.frozen?_of_block (hbl (w.heap.size + 1) (by omega))
    refine ⟨by rw [e1]; simp [go_sem], by rw [e1]; simp [go_sem], by rw [e2]; simp [go_sem], by rw [e2]; simp [go_sem], by rw [e3]; simp [go_sem], by rw [e3]; simp [go_sem], ?_, ?_, ?_, ?_, ?_, hz1, by omega⟩
    · rw [hr.cell (p := ⟨w1.heap.size, 0, none⟩) (by simp)]; simp [go_sem]
    · rw [hr.cell (p := ⟨w1.heap.size, 1, none⟩) (by simp)]; simp [go_sem]
    · exact ((((HI.out.alloc _).alloc _).on hb).alloc _).below hr (by simp)
    · have := (ho.alloc (.cells #[.int .i64 n, .slice a1 l.length cap1] 27)).on (hr.mono (by simp))
      exact this.mono (by simp)
    · exact ((HB.out.alloc (by omega) _).trans (hr.mono (by omega)))
  have HO := Lib.hid ho
  clear ho hb
  have HB1 := Lib.hid (Below.refl (w1.heap.size + 1) (w1.alloc (.cells #[.int .i64 n, .slice a1 l.length cap1] 27)))
  obtain ⟨k0, k1, k2, k3, k4, k5, k6, k7, -, -, -, -, hz⟩ := HF.out _ HB1.out
  clear k2 k3 k4 k5 k6 k7 hz1
  go_wp2_with fail
  refine (implHasEdge n _ l x y _ (HF.out _ HB1.out).2.2.2.2.2.2.2.2.1).mono ?_
  rintro e w2 ⟨r, rfl, hr, hb⟩
  obtain rfl : r = false := by
    cases r with
    | false => rfl
    | true => exact absurd (hr.1 rfl) HNO.out
  have HB2 := Lib.hid (HB1.out.trans (hb.mono hz))
  clear hb k0 k1 hz hr
  obtain ⟨k0, k1, k2, k3, k4, k5, k6, k7, -, -, -, -, hz⟩ := HF.out _ HB2.out
  go_wp2
  refine bodyPost_ret (v := .tuple #[.agg #[.int .i64 n, .slice a1 l.length cap1], .bool false]) (by simp [results, Try.results23, go_sem, k2, k3, k4, k5, k6, k7, hz]) rfl ⟨_, rfl, ?_, ?_⟩
  · exact ((((HF.out _ HB2.out).2.2.2.2.2.2.2.2.2.1).setBelow (by simp <;> omega) _).setBelow (by simp <;> omega) _).mono (by omega)
  · exact ((HF.out _ HB2.out).2.2.2.2.2.2.2.2.2.2.1.setCell (by simp) _).setCell (by simp) _

set_option maxHeartbeats 2000000 in
set_option maxRecDepth 100000 in
theorem implRemoveEdge_yes (n : Int) (v : Value) (l : List Int) (x y : Int) (w : World) (h : Ints w v l) (hl : l.length ≤ 1048576) (hok : HasE n l x y) :
    Calls Try.prog 23 #[.agg #[.int .i64 n, v], .int .i64 x, .int .i64 y] w (GetsGB w.heap.size w n (flipE l x.toNat y.toNat) true) := by
  obtain ⟨a, cap, rfl, -, -⟩ := h.form
  have HI := Lib.hid h
  have HOK := Lib.hid hok
  clear hok
  clear h
  go_enter Try.func23, Try.ntmps23
  go_wp2_with fail
  refine (copyOfGraph_any n _ l _ ((HI.out.alloc _).alloc _) hl).mono ?_
  rintro e w1 ⟨v1, rfl, ho, hb⟩
  have HB := Lib.hid ((((Below.refl _ w).alloc (Nat.le_refl _) _).alloc (by simp) _).trans (hb.mono (by simp <;> omega)))
  have hz1 : w.heap.size + 2 ≤ w1.heap.size := by have := hb.size; simp at this; omega
  obtain ⟨a1, cap1, rfl, -, -⟩ := ho.ints.form
  have HF : Hid (∀ wr, Below (w1.heap.size + 1) (w1.alloc (.cells #[.int .i64 n, .slice a1 l.length cap1] 27)) wr →
      wr.cell? ⟨w.heap.size, 0, none⟩ = some (.int .i64 n) ∧ wr.cell? ⟨w.heap.size, 1, none⟩ = some (.slice a l.length cap) ∧
      wr.cell? ⟨w.heap.size + 1, 0, none⟩ = some (.int .i64 0) ∧ wr.cell? ⟨w.heap.size + 1, 1, none⟩ = some (.slice none 0 0) ∧ wr.frozen? ⟨w.heap.size + 1, 0, none⟩ = false ∧ wr.frozen? ⟨w.heap.size + 1, 1, none⟩ = false ∧
      wr.cell? ⟨w1.heap.size, 0, none⟩ = some (.int .i64 n) ∧ wr.cell? ⟨w1.heap.size, 1, none⟩ = some (.slice a1 l.length cap1) ∧
      Ints wr (.slice a l.length cap) l ∧ OwnI (w.heap.size + 2) wr (.slice a1 l.length cap1) l ∧ Below w.heap.size w wr ∧ w.heap.size + 2 ≤ w1.heap.size ∧ w1.heap.size < wr.heap.size) := fun wr hr => by
    have hs := hr.size
    simp at hs
    have hbl : ∀ b, b < w.heap.size + 2 → wr.heap[b]? = ((w.alloc (.cells #[.int .i64 n, .slice a l.length cap] 27)).alloc (.cells #[.int .i64 0, .slice none 0 0] 27)).heap[b]? := fun b hb' => by
      rw [hr.block b (by omega), Below.heap_alloc w1 _ b (by omega), hb.block b (by simp; omega)]
    have e1 : ∀ o, wr.cell? ⟨w.heap.size, o, none⟩ = ((w.alloc (.cells #[.int .i64 n, .slice a l.length cap] 27)).alloc (.cells #[.int .i64 0, .slice none 0 0] 27)).cell? ⟨w.heap.size, o, none⟩ := fun o => World.cell?_of_block (hbl w.heap.size (by omega))
    have e2 : ∀ o, wr.cell? ⟨w.heap.size + 1, o, none⟩ = ((w.alloc (.cells #[.int .i64 n, .slice a l.length cap] 27)).alloc (.cells #[.int .i64 0, .slice none 0 0] 27)).cell? ⟨w.heap.size + 1, o, none⟩ := fun o => World.cell?_of_block (hbl (w.heap.size + 1) (by omega))
    have e3 : ∀ o, wr.frozen? ⟨w.heap.size + 1, o, none⟩ = ((w.alloc (.cells #[.int .i64 n, .slice a l.length cap] 27)).alloc (.cells #[.int .i64 0, .slice none 0 0] 27)).frozen? ⟨w.heap.size + 1, o, none⟩ := fun o => World.frozen?_of_block (hbl (w.heap.size + 1) (by omega))
    refine ⟨by rw [e1]; simp [go_sem], by rw [e1]; simp [go_sem], by rw [e2]; simp [go_sem], by rw [e2]; simp [go_sem], by rw [e3]; simp [go_sem], by rw [e3]; simp [go_sem], ?_, ?_, ?_, ?_, ?_, hz1, by omega⟩
    · rw [hr.cell (p := ⟨w1.heap.size, 0, none⟩) (by simp)]; simp [go_sem]
    · rw [hr.cell (p := ⟨w1.heap.size, 1, none⟩) (by simp)]; simp [go_sem]
    · exact ((((HI.out.alloc _).alloc _).on hb).alloc _).below hr (by simp)
    · have := (ho.alloc (.cells #[.int .i64 n, .slice a1 l.length cap1] 27)).on (hr.mono (by simp))
      exact this.mono (by simp)
    · exact ((HB.out.alloc (by omega) _).trans (hr.mono (by omega)))
  have HO := Lib.hid ho
  clear ho hb
  have HB1 := Lib.hid (Below.refl (w1.heap.size + 1) (w1.alloc (.cells #[.int .i64 n, .slice a1 l.length cap1] 27)))
  obtain ⟨k0, k1, k2, k3, k4, k5, k6, k7, -, -, -, -, hz⟩ := HF.out _ HB1.out
  clear k2 k3 k4 k5 k6 k7 hz1
  go_wp2_with fail
  refine (implHasEdge n _ l x y _ (HF.out _ HB1.out).2.2.2.2.2.2.2.2.1).mono ?_
  rintro e w5 ⟨r, rfl, hr, hb⟩
  obtain rfl : r = true := hr.2 HOK.out
  have HB5 := Lib.hid (HB1.out.trans (hb.mono hz))
  clear hb k0 k1 hz hr
  obtain ⟨i, rfl⟩ := Int.eq_ofNat_of_zero_le HOK.out.2.1.1
  obtain ⟨j, rfl⟩ := Int.eq_ofNat_of_zero_le HOK.out.2.2.1.1
  have hgl := HOK.out.1.2.2.1
  have hx := HOK.out.2.1.2
  have hy := HOK.out.2.2.1.2
  have hn7 := HOK.out.1.2.1
  have hi : i < l.length := by omega
  have hj : j < l.length := by omega
  have hl7 : l.length ≤ 7 := by omega
  have hij : i ≠ j := fun h => HOK.out.pair.2.2.2 (by rw [h])
  obtain ⟨k0, k1, k2, k3, k4, k5, k6, k7, ki, ko, kb, kz, hz⟩ := HF.out _ HB5.out
  rcases ko.form with ⟨hv, -⟩ | ⟨g, cap', hv, hBg, hg, -⟩
  · simp only [Value.slice.injEq] at hv
    omega
  simp only [Value.slice.injEq] at hv
  obtain ⟨rfl, -, rfl⟩ := hv
  have hgq : w1.heap.size ≠ g := by
    have := (HO.out.lt g rfl).2
    omega
  have HL := Lib.hid hgl
  have KO := Lib.hid ko
  have KB := Lib.hid kb
  clear hgl hx hy ki ko kb
  go_wp2_with fail
  refine (turnEdge_any (w.heap.size + 2) w1.heap.size g cap1 n l i j w5 k6 k7 hgq KO.out hi hj hij HOK.out.1.small hl7).mono ?_
  rintro e w6 ⟨rfl, ho6, hg6⟩
  obtain ⟨hc6, hf6⟩ := gcell hg6
  have h1 : w.heap.size + 1 < w5.heap.size := by omega
  have n1 : w.heap.size + 1 ≠ g := by omega
  have n2 : w.heap.size ≠ g := by omega
  have m2 : w6.cell? ⟨w.heap.size + 1, 0, none⟩ = some (.int .i64 0) := by rw [hc6 _ _ h1 (by simp; omega)]; exact k2
  have m3 : w6.cell? ⟨w.heap.size + 1, 1, none⟩ = some (.slice none 0 0) := by rw [hc6 _ _ h1 (by simp; omega)]; exact k3
  have m4 : w6.frozen? ⟨w.heap.size + 1, 0, none⟩ = false := by rw [hf6 _ _ h1 (by simp; omega)]; exact k4
  have m5 : w6.frozen? ⟨w.heap.size + 1, 1, none⟩ = false := by rw [hf6 _ _ h1 (by simp; omega)]; exact k5
  have m6 : w6.cell? ⟨w1.heap.size, 0, none⟩ = some (.int .i64 n) := by rw [hc6 _ _ hz (by simpa using hgq)]; exact k6
  have m7 : w6.cell? ⟨w1.heap.size, 1, none⟩ = some (.slice (some ⟨g, 0, none⟩) l.length cap1) := by rw [hc6 _ _ hz (by simpa using hgq)]; exact k7
  have HO6 := Lib.hid ho6
  have HB6 := Lib.hid (KB.out.grown hg6 (by omega) (fun k hk => by have := Option.some.inj hk; omega))
  have hz6 : w1.heap.size < w6.heap.size := by have := hg6.size; omega
  clear hc6 hf6 hg6 ho6 k0 k1 k2 k3 k4 k5 k6 k7
  go_wp2
  refine bodyPost_ret (v := .tuple #[.agg #[.int .i64 n, .slice (some ⟨g, 0, none⟩) l.length cap1], .bool true]) (by simp [results, Try.results23, go_sem, m2, m3, m4, m5, m6, m7]) rfl ⟨_, rfl, ?_, ?_⟩
  · have := HO6.out
    exact ((this.setBelow (by simp <;> omega) _).setBelow (by simp <;> omega) _).mono (by omega)
  · exact (HB6.out.setCell (by simp) _).setCell (by simp) _


end Go.Proofs.Ytkadihfbbmhebaa
