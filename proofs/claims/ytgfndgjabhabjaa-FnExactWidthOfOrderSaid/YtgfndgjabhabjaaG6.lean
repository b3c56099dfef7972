/- Walks over the specification's AddEdge and RemoveEdge. -/
import Derived.Test.YtgfndgjabhabjaaG5
import Derived.StillTailTactics
namespace Go.Proofs.Ytgfndgjabhabjaa
set_option linter.unusedVariables false
set_option linter.unusedSimpArgs false
open Go.RowKit

set_option maxHeartbeats 1000000 in
set_option maxRecDepth 100000 in
theorem l2Copy_any (n : Int) (v : Value) (l : List Int) (w : World) (h : Ints w v l) (hl : l.length ≤ 1048576) (hnil : v = .slice none 0 0 ∨ ∃ ad cap, v = .slice (some ad) l.length cap) :
    Calls Try.prog 116 #[.agg #[.int .i64 n, v]] w (GetsG w.heap.size w n l) := by
  obtain ⟨i0, hi, hz0, hz1, hz2⟩ := info_parts infoInt
  obtain ⟨a, cap, rfl, hc, hm⟩ := h.form
  have HN := Lib.hid hnil
  have HI := Lib.hid h
  clear h hnil
  unfold maxLen at hm
  have HE : Hid (OwnI (w.heap.size + 2) (((w.alloc (.cells #[.int .i64 n, .slice a l.length cap] 44)).alloc (.cells #[.int .i64 0, .slice none 0 0] 44)).alloc (.cells #[] 3)) (.slice (some ⟨w.heap.size + 1 + 1, 0, none⟩) 0 0) []) := by
    have := World.ownsRow_lit (base := w.heap.size + 2) (e := 3) (size := 1) ((w.alloc (.cells #[.int .i64 n, .slice a l.length cap] 44)).alloc (.cells #[.int .i64 0, .slice none 0 0] 44)) #[] 0 (by simp) (by simp [maxLen]) rfl
    simp at this
    exact ⟨inI64_nil, by simpa [iv] using this⟩
  go_enter Try.func116, Try.ntmps116
  go_wp2
  go_region_law (refine step_append_ints rfl (.tmp 5) (.tmp 7) 22 rfl (w.heap.size + 2) i0 Try.underlying22 hi hz0 hz1 hz2 (.slice (some ⟨w.heap.size + 1 + 1, 0, none⟩) 0 0) [] rfl HE.out _ l rfl (((HI.out.alloc _).alloc _).alloc _) HN.out (by simp; omega) (by simp) ?_; intro v' w' ho hg hne; obtain ⟨a', cap', rfl, -, -⟩ := ho.ints.form; have hg : (((w.alloc (.cells #[.int .i64 n, .slice a l.length cap] 44)).alloc (.cells #[.int .i64 0, .slice none 0 0] 44)).alloc (.cells #[] 3)).grownBy w' (some (w.heap.size + 1 + 1)) := ⟨hg.os, hg.tape, hg.output, hg.size, hg.block⟩; obtain ⟨hc, hf⟩ := gcell hg; have k0 : w'.cell? ⟨w.heap.size, 0, none⟩ = some (.int .i64 n) := (by rw [hc _ _ (by simp <;> omega) (by simp <;> omega)]; simp [go_sem]); have k2 : w'.cell? ⟨w.heap.size + 1, 0, none⟩ = some (.int .i64 0) := (by rw [hc _ _ (by simp <;> omega) (by simp <;> omega)]; simp [go_sem]); have k3 : w'.cell? ⟨w.heap.size + 1, 1, none⟩ = some (.slice none 0 0) := (by rw [hc _ _ (by simp <;> omega) (by simp <;> omega)]; simp [go_sem]); have k4 : w'.frozen? ⟨w.heap.size + 1, 0, none⟩ = false := (by rw [hf _ _ (by simp <;> omega) (by simp <;> omega)]; simp [go_sem]); have k5 : w'.frozen? ⟨w.heap.size + 1, 1, none⟩ = false := (by rw [hf _ _ (by simp <;> omega) (by simp <;> omega)]; simp [go_sem]); have hsz : w.heap.size + 2 ≤ w'.heap.size := (by have := hg.size; simp at this; omega); have HO := Lib.hid ho; have HB := Lib.hid (Below.grown (B := w.heap.size) ((((Below.refl _ w).alloc (Nat.le_refl _) _).alloc (by simp) _).alloc (by simp <;> omega) _) hg (by simp <;> omega) (fun k hk => (by have := Option.some.inj hk; omega))); clear hc hf ho hg hne)
  all_goals
    go_wp2
    refine bodyPost_ret (v := .agg #[.int .i64 n, .slice a' l.length cap']) (by simp [results, Try.results116, go_sem, k0, k2, k3, k4, k5, hsz]) rfl ⟨_, rfl, ?_, ?_⟩
    · exact ((HO.out.setBelow (by simp) _).setBelow (by simp) _).mono (by omega)
    · have gg := (HB.out.setCell (p := ⟨w.heap.size + 1, 0, none⟩) (by simp) (.int .i64 n)).setCell (p := ⟨w.heap.size + 1, 1, none⟩) (by simp) (.slice a' l.length cap')
      exact ⟨gg.os, gg.tape, gg.output, gg.size, gg.block⟩

/-- Two vertices that differ. -/
def PairOk (n : Int) (l : List Int) (x y : Int) : Prop := IsG n l ∧ (0 ≤ x ∧ x < n) ∧ (0 ≤ y ∧ y < n) ∧ x ≠ y

theorem HasE.pair {n : Int} {l : List Int} {x y : Int} (h : HasE n l x y) : PairOk n l x y := by
  refine ⟨h.1, h.2.1, h.2.2.1, ?_⟩
  rintro rfl
  have hd := (h.1.2.2.2 x.toNat (by have := h.1.2.2.1; have := h.2.1; omega)).1.2.2
  have := (edB_iff _ _ _).1 h.2.2.2
  rw [hd] at this
  simp at this

set_option maxHeartbeats 1000000 in
set_option maxRecDepth 100000 in
theorem l2Pair_any (n : Int) (v : Value) (l : List Int) (x y : Int) (w : World) (h : Ints w v l) :
    Calls Try.prog 123 #[.agg #[.int .i64 n, v], .int .i64 x, .int .i64 y] w (SaysB (PairOk n l x y) w) := by
  obtain ⟨a, cap, rfl, -, -⟩ := h.form
  have HA := argG' (T := 44) (n := n) h
  have HI := Lib.hid h
  clear h
  go_enter Try.func123, Try.ntmps123
  go_wp2_with fail
  refine (specIsG_any n _ l _ (HI.out.alloc _)).mono ?_
  rintro e w1 ⟨r, rfl, hr, hb⟩
  have HB := Lib.hid (hb.mono (B' := w.heap.size + 1) (by simp))
  clear hb
  obtain ⟨c0, c1, -, -, hz⟩ := HA.out _ HB.out
  cases r with
  | false =>
    have hno : ¬ IsG n l := by simpa using hr
    have HN := Lib.hid hno
    clear hr hno
    go_wp2
    go_ret
    exact SaysB.no (fun hg => HN.out hg.1) (HA.out _ HB.out).2.2.2.1
  | true =>
    have HG := Lib.hid (hr.1 rfl)
    clear hr
    by_cases hx0 : 0 ≤ x
    · have dx0 : decide (0 ≤ x) = true := by simp [hx0]
      by_cases hy0 : 0 ≤ y
      · have dy0 : decide (0 ≤ y) = true := by simp [hy0]
        by_cases hx1 : x < n
        · have dx1 : decide (x < n) = true := by simp [hx1]
          by_cases hy1 : y < n
          · have dy1 : decide (y < n) = true := by simp [hy1]
            by_cases hxy : x = y
            · have dq : (x != y) = false := by simp [hxy]
              have HXY := Lib.hid hxy
              clear hxy
              go_wp2
              go_ret
              exact SaysB.no (fun hg => hg.2.2.2 HXY.out) (HA.out _ HB.out).2.2.2.1
            · have dq : (x != y) = true := by simp [hxy]
              have HXY := Lib.hid hxy
              clear hxy
              go_wp2
              go_ret
              exact SaysB.yes ⟨HG.out, ⟨hx0, hx1⟩, ⟨hy0, hy1⟩, HXY.out⟩ (HA.out _ HB.out).2.2.2.1
          · have dy1 : decide (y < n) = false := by simp; omega
            go_wp2
            go_ret
            exact SaysB.no (fun hg => by have := hg.2.2.1; omega) (HA.out _ HB.out).2.2.2.1
        · have dx1 : decide (x < n) = false := by simp; omega
          go_wp2
          go_ret
          exact SaysB.no (fun hg => by have := hg.2.1; omega) (HA.out _ HB.out).2.2.2.1
      · have dy0 : decide (0 ≤ y) = false := by simp; omega
        go_wp2
        go_ret
        exact SaysB.no (fun hg => by have := hg.2.2.1; omega) (HA.out _ HB.out).2.2.2.1
    · have dx0 : decide (0 ≤ x) = false := by simp; omega
      go_wp2
      go_ret
      exact SaysB.no (fun hg => by have := hg.2.1; omega) (HA.out _ HB.out).2.2.2.1

set_option maxHeartbeats 2000000 in
set_option maxRecDepth 100000 in
theorem specAddEdge_no (n : Int) (v : Value) (l : List Int) (x y : Int) (w : World) (h : Ints w v l) (hl : l.length ≤ 1048576) (hnil : v = .slice none 0 0 ∨ ∃ ad cap, v = .slice (some ad) l.length cap) (hno : ¬ AddOk n l x y) :
    Calls Try.prog 95 #[.agg #[.int .i64 n, v], .int .i64 x, .int .i64 y] w (GetsGB w.heap.size w n l false) := by
  obtain ⟨a, cap, rfl, -, -⟩ := h.form
  have HI := Lib.hid h
  have HNIL := Lib.hid hnil
  clear hnil
  have HNO := Lib.hid hno
  clear hno
  clear h
  go_enter Try.func95, Try.ntmps95
  go_wp2_with fail
  refine (l2Copy_any n _ l _ ((HI.out.alloc _).alloc _) hl HNIL.out).mono ?_
  rintro e w1 ⟨v1, rfl, ho, hb⟩
  have HB := Lib.hid ((((Below.refl _ w).alloc (Nat.le_refl _) _).alloc (by simp) _).trans (hb.mono (by simp <;> omega)))
  have hz1 : w.heap.size + 2 ≤ w1.heap.size := by have := hb.size; simp at this; omega
  obtain ⟨a1, cap1, rfl, -, -⟩ := ho.ints.form
  have HF : Hid (∀ wr, Below (w1.heap.size + 1) (w1.alloc (.cells #[.int .i64 n, .slice a1 l.length cap1] 44)) wr →
      wr.cell? ⟨w.heap.size, 0, none⟩ = some (.int .i64 n) ∧ wr.cell? ⟨w.heap.size, 1, none⟩ = some (.slice a l.length cap) ∧
      wr.cell? ⟨w.heap.size + 1, 0, none⟩ = some (.int .i64 0) ∧ wr.cell? ⟨w.heap.size + 1, 1, none⟩ = some (.slice none 0 0) ∧ wr.frozen? ⟨w.heap.size + 1, 0, none⟩ = false ∧ wr.frozen? ⟨w.heap.size + 1, 1, none⟩ = false ∧
      wr.cell? ⟨w1.heap.size, 0, none⟩ = some (.int .i64 n) ∧ wr.cell? ⟨w1.heap.size, 1, none⟩ = some (.slice a1 l.length cap1) ∧
      Ints wr (.slice a l.length cap) l ∧ OwnI (w.heap.size + 2) wr (.slice a1 l.length cap1) l ∧ Below w.heap.size w wr ∧ w.heap.size + 2 ≤ w1.heap.size ∧ w1.heap.size < wr.heap.size) := fun wr hr => by
    have hs := hr.size
    simp at hs
    have hbl : ∀ b, b < w.heap.size + 2 → wr.heap[b]? = ((w.alloc (.cells #[.int .i64 n, .slice a l.length cap] 44)).alloc (.cells #[.int .i64 0, .slice none 0 0] 44)).heap[b]? := fun b hb' => by
      rw [hr.block b (by omega), Below.heap_alloc w1 _ b (by omega), hb.block b (by simp; omega)]
    have e1 : ∀ o, wr.cell? ⟨w.heap.size, o, none⟩ = ((w.alloc (.cells #[.int .i64 n, .slice a l.length cap] 44)).alloc (.cells #[.int .i64 0, .slice none 0 0] 44)).cell? ⟨w.heap.size, o, none⟩ := fun o => World.cell?_of_block (hbl w.heap.size (by omega))
    have e2 : ∀ o, wr.cell? ⟨w.heap.size + 1, o, none⟩ = ((w.alloc (.cells #[.int .i64 n, .slice a l.length cap] 44)).alloc (.cells #[.int .i64 0, .slice none 0 0] 44)).cell? ⟨w.heap.size + 1, o, none⟩ := fun o => World.cell?_of_block (hbl (w.heap.size + 1) (by omega))
    have e3 : ∀ o, wr.frozen? ⟨w.heap.size + 1, o, none⟩ = ((w.alloc (.cells #[.int .i64 n, .slice a l.length cap] 44)).alloc (.cells #[.int .i64 0, .slice none 0 0] 44)).frozen? ⟨w.heap.size + 1, o, none⟩ := fun o => World.frozen?_of_block (hbl (w.heap.size + 1) (by omega))
    refine ⟨by rw [e1]; simp [go_sem], by rw [e1]; simp [go_sem], by rw [e2]; simp [go_sem], by rw [e2]; simp [go_sem], by rw [e3]; simp [go_sem], by rw [e3]; simp [go_sem], ?_, ?_, ?_, ?_, ?_, hz1, by omega⟩
    · rw [hr.cell (p := ⟨w1.heap.size, 0, none⟩) (by simp)]; simp [go_sem]
    · rw [hr.cell (p := ⟨w1.heap.size, 1, none⟩) (by simp)]; simp [go_sem]
    · exact ((((HI.out.alloc _).alloc _).on hb).alloc _).below hr (by simp)
    · have := (ho.alloc (.cells #[.int .i64 n, .slice a1 l.length cap1] 44)).on (hr.mono (by simp))
      exact this.mono (by simp)
    · exact ((HB.out.alloc (by omega) _).trans (hr.mono (by omega)))
  have HO := Lib.hid ho
  clear ho hb
  have HB1 := Lib.hid (Below.refl (w1.heap.size + 1) (w1.alloc (.cells #[.int .i64 n, .slice a1 l.length cap1] 44)))
  obtain ⟨k0, k1, k2, k3, k4, k5, k6, k7, -, -, -, -, hz⟩ := HF.out _ HB1.out
  clear k2 k3 k4 k5 k6 k7 hz1
  go_wp2_with fail
  refine (l2Pair_any n _ l x y _ (HF.out _ HB1.out).2.2.2.2.2.2.2.2.1).mono ?_
  rintro e w2 ⟨r, rfl, hr, hb⟩
  have HB2 := Lib.hid (HB1.out.trans (hb.mono hz))
  clear hb k0 k1 hz
  cases r with
  | false =>
    clear hr
    obtain ⟨k0, k1, k2, k3, k4, k5, k6, k7, -, -, -, -, hz⟩ := HF.out _ HB2.out
    go_wp2
    refine bodyPost_ret (v := .tuple #[.agg #[.int .i64 n, .slice a1 l.length cap1], .bool false]) (by simp [results, Try.results95, go_sem, k2, k3, k4, k5, k6, k7, hz]) rfl ⟨_, rfl, ?_, ?_⟩
    · exact ((((HF.out _ HB2.out).2.2.2.2.2.2.2.2.2.1).setBelow (by simp <;> omega) _).setBelow (by simp <;> omega) _).mono (by omega)
    · exact ((HF.out _ HB2.out).2.2.2.2.2.2.2.2.2.2.1.setCell (by simp) _).setCell (by simp) _
  | true =>
    have HG := Lib.hid (hr.1 rfl)
    clear hr
    obtain ⟨k0, k1, -, -, -, -, -, -, -, -, -, -, hz⟩ := HF.out _ HB2.out
    have hgl := HG.out.1.2.2.1
    have hx := HG.out.2.1
    have hy := HG.out.2.2.1
    have hn7 := HG.out.1.2.1
    obtain ⟨i, rfl⟩ := Int.eq_ofNat_of_zero_le hx.1
    obtain ⟨j, rfl⟩ := Int.eq_ofNat_of_zero_le hy.1
    have hil : i < l.length := by omega
    have hjl : j < 64 := by omega
    clear hgl hx hy
    go_wp2_with fail
    refine (l2Edge_is n _ l i j _ (HF.out _ HB2.out).2.2.2.2.2.2.2.2.1 hil hjl).mono ?_
    rintro e w3 ⟨rfl, hb⟩
    have HB3 := Lib.hid (HB2.out.trans (hb.mono hz))
    clear hb k0 k1 hz
    have he : edB l i j = true := by
      cases he : edB l i j with
      | true => rfl
      | false => exact absurd (⟨HG.out.1, HG.out.2.1, HG.out.2.2.1, HG.out.2.2.2, he⟩) HNO.out
    rw [he]
    clear he
    obtain ⟨k0, k1, k2, k3, k4, k5, k6, k7, -, -, -, -, hz⟩ := HF.out _ HB3.out
    go_wp2
    refine bodyPost_ret (v := .tuple #[.agg #[.int .i64 n, .slice a1 l.length cap1], .bool false]) (by simp [results, Try.results95, go_sem, k2, k3, k4, k5, k6, k7, hz]) rfl ⟨_, rfl, ?_, ?_⟩
    · exact ((((HF.out _ HB3.out).2.2.2.2.2.2.2.2.2.1).setBelow (by simp <;> omega) _).setBelow (by simp <;> omega) _).mono (by omega)
    · exact ((HF.out _ HB3.out).2.2.2.2.2.2.2.2.2.2.1.setCell (by simp) _).setCell (by simp) _

set_option maxHeartbeats 2000000 in
set_option maxRecDepth 100000 in
theorem specAddEdge_yes (n : Int) (v : Value) (l : List Int) (x y : Int) (w : World) (h : Ints w v l) (hl : l.length ≤ 1048576) (hnil : v = .slice none 0 0 ∨ ∃ ad cap, v = .slice (some ad) l.length cap) (hok : AddOk n l x y) :
    Calls Try.prog 95 #[.agg #[.int .i64 n, v], .int .i64 x, .int .i64 y] w (GetsGB w.heap.size w n (flipE l x.toNat y.toNat) true) := by
  obtain ⟨a, cap, rfl, -, -⟩ := h.form
  have HI := Lib.hid h
  have HNIL := Lib.hid hnil
  clear hnil
  have HOK := Lib.hid hok
  clear hok
  clear h
  go_enter Try.func95, Try.ntmps95
  go_wp2_with fail
  refine (l2Copy_any n _ l _ ((HI.out.alloc _).alloc _) hl HNIL.out).mono ?_
  rintro e w1 ⟨v1, rfl, ho, hb⟩
  have HB := Lib.hid ((((Below.refl _ w).alloc (Nat.le_refl _) _).alloc (by simp) _).trans (hb.mono (by simp <;> omega)))
  have hz1 : w.heap.size + 2 ≤ w1.heap.size := by have := hb.size; simp at this; omega
  obtain ⟨a1, cap1, rfl, -, -⟩ := ho.ints.form
  have HF : Hid (∀ wr, Below (w1.heap.size + 1) (w1.alloc (.cells #[.int .i64 n, .slice a1 l.length cap1] 44)) wr →
      wr.cell? ⟨w.heap.size, 0, none⟩ = some (.int .i64 n) ∧ wr.cell? ⟨w.heap.size, 1, none⟩ = some (.slice a l.length cap) ∧
      wr.cell? ⟨w.heap.size + 1, 0, none⟩ = some (.int .i64 0) ∧ wr.cell? ⟨w.heap.size + 1, 1, none⟩ = some (.slice none 0 0) ∧ wr.frozen? ⟨w.heap.size + 1, 0, none⟩ = false ∧ wr.frozen? ⟨w.heap.size + 1, 1, none⟩ = false ∧
      wr.cell? ⟨w1.heap.size, 0, none⟩ = some (.int .i64 n) ∧ wr.cell? ⟨w1.heap.size, 1, none⟩ = some (.slice a1 l.length cap1) ∧
      Ints wr (.slice a l.length cap) l ∧ OwnI (w.heap.size + 2) wr (.slice a1 l.length cap1) l ∧ Below w.heap.size w wr ∧ w.heap.size + 2 ≤ w1.heap.size ∧ w1.heap.size < wr.heap.size) := fun wr hr => by
    have hs := hr.size
    simp at hs
    have hbl : ∀ b, b < w.heap.size + 2 → wr.heap[b]? = ((w.alloc (.cells #[.int .i64 n, .slice a l.length cap] 44)).alloc (.cells #[.int .i64 0, .slice none 0 0] 44)).heap[b]? := fun b hb' => by
      rw [hr.block b (by omega), Below.heap_alloc w1 _ b (by omega), hb.block b (by simp; omega)]
    have e1 : ∀ o, wr.cell? ⟨w.heap.size, o, none⟩ = ((w.alloc (.cells #[.int .i64 n, .slice a l.length cap] 44)).alloc (.cells #[.int .i64 0, .slice none 0 0] 44)).cell? ⟨w.heap.size, o, none⟩ := fun o => World.cell?_of_block (hbl w.heap.size (by omega))
    have e2 : ∀ o, wr.cell? ⟨w.heap.size + 1, o, none⟩ = ((w.alloc (.cells #[.int .i64 n, .slice a l.length cap] 44)).alloc (.cells #[.int .i64 0, .slice none 0 0] 44)).cell? ⟨w.heap.size + 1, o, none⟩ := fun o => World.cell?_of_block (hbl (w.heap.size + 1) (by omega))
    have e3 : ∀ o, wr.frozen? ⟨w.heap.size + 1, o, none⟩ = ((w.alloc (.cells #[.int .i64 n, .slice a l.length cap] 44)).alloc (.cells #[.int .i64 0, .slice none 0 0] 44)).frozen? ⟨w.heap.size + 1, o, none⟩ := fun o => World.frozen?_of_block (hbl (w.heap.size + 1) (by omega))
    refine ⟨by rw [e1]; simp [go_sem], by rw [e1]; simp [go_sem], by rw [e2]; simp [go_sem], by rw [e2]; simp [go_sem], by rw [e3]; simp [go_sem], by rw [e3]; simp [go_sem], ?_, ?_, ?_, ?_, ?_, hz1, by omega⟩
    · rw [hr.cell (p := ⟨w1.heap.size, 0, none⟩) (by simp)]; simp [go_sem]
    · rw [hr.cell (p := ⟨w1.heap.size, 1, none⟩) (by simp)]; simp [go_sem]
    · exact ((((HI.out.alloc _).alloc _).on hb).alloc _).below hr (by simp)
    · have := (ho.alloc (.cells #[.int .i64 n, .slice a1 l.length cap1] 44)).on (hr.mono (by simp))
      exact this.mono (by simp)
    · exact ((HB.out.alloc (by omega) _).trans (hr.mono (by omega)))
  have HO := Lib.hid ho
  clear ho hb
  have HB1 := Lib.hid (Below.refl (w1.heap.size + 1) (w1.alloc (.cells #[.int .i64 n, .slice a1 l.length cap1] 44)))
  obtain ⟨k0, k1, k2, k3, k4, k5, k6, k7, -, -, -, -, hz⟩ := HF.out _ HB1.out
  clear k2 k3 k4 k5 k6 k7 hz1
  have HP : Hid (PairOk n l x y) := ⟨HOK.out.1, HOK.out.2.1, HOK.out.2.2.1, HOK.out.2.2.2.1⟩
  go_wp2_with fail
  refine (l2Pair_any n _ l x y _ (HF.out _ HB1.out).2.2.2.2.2.2.2.2.1).mono ?_
  rintro e w2 ⟨r, rfl, hr, hb⟩
  obtain rfl : r = true := hr.2 HP.out
  have HB2 := Lib.hid (HB1.out.trans (hb.mono hz))
  clear hb k0 k1 hz hr
  obtain ⟨k0, k1, -, -, -, -, -, -, -, -, -, -, hz⟩ := HF.out _ HB2.out
  have hgl := HP.out.1.2.2.1
  have hx := HP.out.2.1
  have hy := HP.out.2.2.1
  have hn7 := HP.out.1.2.1
  obtain ⟨i, rfl⟩ := Int.eq_ofNat_of_zero_le hx.1
  obtain ⟨j, rfl⟩ := Int.eq_ofNat_of_zero_le hy.1
  have hi : i < l.length := by omega
  have hj : j < l.length := by omega
  have hl7 : l.length ≤ 7 := by omega
  have hij : i ≠ j := fun h => HP.out.2.2.2 (by rw [h])
  have hjl : j < 64 := by omega
  have HE : Hid (edB l i j = false) := HOK.out.2.2.2.2
  clear hgl hx hy
  go_wp2_with fail
  refine (l2Edge_is n _ l i j _ (HF.out _ HB2.out).2.2.2.2.2.2.2.2.1 hi hjl).mono ?_
  rintro e w5 ⟨rfl, hb⟩
  have HB5 := Lib.hid (HB2.out.trans (hb.mono hz))
  clear hb k0 k1 hz
  obtain ⟨k0, k1, k2, k3, k4, k5, k6, k7, ki, ko, kb, kz, hz⟩ := HF.out _ HB5.out
  rw [HE.out]
  rcases ko.form with ⟨hv, -⟩ | ⟨g, cap', hv, hBg, hg, -, -, hcell, hfr⟩
  · simp only [Value.slice.injEq] at hv
    omega
  simp only [Value.slice.injEq] at hv
  obtain ⟨rfl, -, rfl⟩ := hv
  have hgq : w1.heap.size ≠ g := by
    have := (HO.out.lt g rfl).2
    omega
  have hs := HP.out.1.small
  have hb0 : bitAt (nth l i) j = 0 := by
    have := HE.out
    have h2 := bitAt_two (nth l i) j
    simp [edB] at this
    omega
  have hb1 : bitAt (nth l j) i = 0 := by rw [← HP.out.1.sym hi hj]; exact hb0
  obtain ⟨x, hx⟩ : ∃ x, x = nth l i := ⟨_, rfl⟩
  obtain ⟨y, hy⟩ : ∃ y, y = nth l j := ⟨_, rfl⟩
  have c1 := hcell i hi
  have c2 := hcell j hj
  rw [← hx] at c1 hb0
  rw [← hy] at c2 hb1
  have f1 := hfr i
  have f2 := hfr j
  have hsi := hs i hi
  have hsj := hs j hj
  rw [← hx] at hsi
  rw [← hy] at hsj
  obtain ⟨P, ep, p1, p2⟩ : ∃ P, (2 : Int) ^ j = P ∧ 1 ≤ P ∧ P ≤ 128 := ⟨_, rfl, (shl_one' j (by omega)).2.2.2.2, (shl_one' j (by omega)).2.2.2.1⟩
  obtain ⟨Q, eq, q1, q2⟩ : ∃ Q, (2 : Int) ^ i = Q ∧ 1 ≤ Q ∧ Q ≤ 128 := ⟨_, rfl, (shl_one' i (by omega)).2.2.2.2, (shl_one' i (by omega)).2.2.2.1⟩
  have z1 : flip x j = x + P := by unfold flip; rw [hb0, ep]; simp
  have z4 : flip y i = y + Q := by unfold flip; rw [hb1, eq]; simp
  have o1 := ko.set i (x + P) (by omega) (by omega)
  have HEQ : Hid (flipE l i j = (l.set i (x + P)).set j (y + Q)) := by rw [← z1, ← z4, hx, hy]; rfl
  have w1' : IntKind.i64.wrap (1 * P) = P := IntWalk.i64_in _ (by omega) |>.trans (by omega)
  have w2' : IntKind.i64.wrap P = P := IntWalk.i64_in _ (by omega)
  have w3' : IntKind.i64.wrap (1 * Q) = Q := IntWalk.i64_in _ (by omega) |>.trans (by omega)
  have w4' : IntKind.i64.wrap Q = Q := IntWalk.i64_in _ (by omega)
  have w5' : IntKind.i64.wrap (x + P) = x + P := IntWalk.i64_in _ (by omega)
  have w6' : IntKind.i64.wrap (y + Q) = y + Q := IntWalk.i64_in _ (by omega)
  have hyq : 0 ≤ y ∧ y < 128 := hsj
  have hji : j ≠ i := fun h => hij h.symm
  have O1 := Lib.hid o1.1
  have HY := Lib.hid hy
  have G1 := Lib.hid o1.2
  have KB := Lib.hid kb
  have h1 : w.heap.size + 1 < w5.heap.size := by omega
  have n1 : w.heap.size + 1 ≠ g := by omega
  have hsg : g < w5.heap.size := hg
  clear ki ko kb o1 hs hb0 hb1 hx hy hcell hfr z1 z4 k0 k1 hsi hsj
  go_wp2
  go_still_tail 12, (by kernel_rfl)
  change wpList _ _ _ _ _ w5.drew
  go_wp2
  obtain ⟨w6, hw6⟩ : ∃ w6, w6 = (w5.setCell ⟨g, i, none⟩ (.int .i64 (x + P))).drew := ⟨_, rfl⟩
  rw [← hw6]
  have hg6 : w5.grownBy w6 (some g) := by rw [hw6]; exact ⟨G1.out.os, G1.out.tape, G1.out.output, G1.out.size, G1.out.block⟩
  have ho6 : OwnI (w.heap.size + 2) w6 (.slice (some ⟨g, 0, none⟩) l.length cap1) (l.set i (x + P)) := by rw [hw6]; exact O1.out
  clear hw6
  obtain ⟨hc6, hf6⟩ := gcell hg6
  have h2 : w1.heap.size < w5.heap.size := hz
  have r2 : w6.cell? ⟨w.heap.size + 1, 0, none⟩ = some (.int .i64 0) := by rw [hc6 _ _ h1 (by simpa using n1)]; exact k2
  have r3 : w6.cell? ⟨w.heap.size + 1, 1, none⟩ = some (.slice none 0 0) := by rw [hc6 _ _ h1 (by simpa using n1)]; exact k3
  have r4 : w6.frozen? ⟨w.heap.size + 1, 0, none⟩ = false := by rw [hf6 _ _ h1 (by simpa using n1)]; exact k4
  have r5 : w6.frozen? ⟨w.heap.size + 1, 1, none⟩ = false := by rw [hf6 _ _ h1 (by simpa using n1)]; exact k5
  have r6 : w6.cell? ⟨w1.heap.size, 0, none⟩ = some (.int .i64 n) := by rw [hc6 _ _ h2 (by simpa using hgq)]; exact k6
  have r7 : w6.cell? ⟨w1.heap.size, 1, none⟩ = some (.slice (some ⟨g, 0, none⟩) l.length cap1) := by rw [hc6 _ _ h2 (by simpa using hgq)]; exact k7
  obtain ⟨d2, g2⟩ : w6.cell? ⟨g, j, none⟩ = some (.int .i64 y) ∧ w6.frozen? ⟨g, j, none⟩ = false := by
    rcases ho6.form with ⟨hv, -⟩ | ⟨g', cap', hv, -, -, -, -, hcell, hfr⟩
    · cases hv
    · simp only [Value.slice.injEq, Option.some.injEq, Addr.mk.injEq] at hv
      obtain ⟨⟨rfl, -⟩, -, rfl⟩ := hv
      refine ⟨?_, hfr j⟩
      rw [hcell j (by simpa using hj), nth_set l i _ j hi, if_neg hji, ← HY.out]
  have o2 := OwnI.set (l := l.set i (x + P)) (by simpa using ho6) j (y + Q) (by have := hyq; clear w1' w2' w3' w4' w5' w6'; omega) (by have := hyq; clear w1' w2' w3' w4' w5' w6'; omega)
  have hg7 := grown_trans hg6 o2.2
  have ho7 := o2.1
  rw [← HEQ.out, List.length_set] at ho7
  have HO7 := Lib.hid ho7
  have HB7 := Lib.hid (KB.out.grown hg7 (by omega) (fun k hk => by have := Option.some.inj hk; omega))
  clear k2 k3 k4 k5 k6 k7 c1 c2 f1 f2 hc6 hf6 hg6 ho6 o2 hg7 ho7
  go_wp2
  go_still_tail 12, (by kernel_rfl)
  change wpList _ _ _ _ _ w6.drew
  go_wp2
  refine bodyPost_ret (v := .tuple #[.agg #[.int .i64 n, .slice (some ⟨g, 0, none⟩) l.length cap1], .bool true]) (by simp [results, Try.results95, go_sem, r2, r3, r4, r5, r6, r7, n1, hgq]) rfl ⟨_, rfl, ?_, ?_⟩
  · have gg := ((HO7.out.setBelow (a := ⟨w.heap.size + 1, 0, none⟩) (by simp <;> omega) (.int .i64 n)).setBelow (a := ⟨w.heap.size + 1, 1, none⟩) (by simp <;> omega) (.slice (some ⟨g, 0, none⟩) l.length cap1)).mono (B' := w.heap.size) (by omega)
    exact gg
  · have gg := (HB7.out.setCell (p := ⟨w.heap.size + 1, 0, none⟩) (by simp) (.int .i64 n)).setCell (p := ⟨w.heap.size + 1, 1, none⟩) (by simp) (.slice (some ⟨g, 0, none⟩) l.length cap1)
    exact ⟨gg.os, gg.tape, gg.output, gg.size, gg.block⟩

end Go.Proofs.Ytgfndgjabhabjaa
