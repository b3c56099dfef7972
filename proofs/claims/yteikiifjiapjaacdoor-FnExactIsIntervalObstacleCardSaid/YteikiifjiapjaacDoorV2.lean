/- Walks over IsIndependent. -/
import Derived.Test.YteikiifjiapjaacDoorV1
import Derived.Test.YteikiifjiapjaacDoorH1
namespace Go.Proofs.YteikiifjiapjaacDoor
set_option linter.unusedVariables false
set_option linter.unusedSimpArgs false
open Go.RowKit Go.Shelf
attribute [local go_sem] Oper.semAt_some

/-- A set in which no two are neighbours. -/
def IndepS (n : Int) (l : List Int) (x : Int) : Prop := IsS n l x ∧ ∀ v, v < l.length → bitAt x v = 1 → bits .and .i64 x (nth l v) = 0

theorem and_comm' (x y : Int) : bits .and .i64 x y = bits .and .i64 y x := by
  show IntKind.i64.wrap ((BitVec.ofInt 64 x &&& BitVec.ofInt 64 y).toNat : Int) = IntKind.i64.wrap ((BitVec.ofInt 64 y &&& BitVec.ofInt 64 x).toNat : Int)
  rw [BitVec.and_comm]

/-- Between two rounds: none of those that have come has a neighbour in x. -/
def IndI (l : List Int) (x : Int) (w2 : World) (pre : List (Mem x)) (W : World) : Prop := (∀ y ∈ pre, bits .and .i64 x (nth l y.1) = 0) ∧ Below w2.heap.size w2 W

/-- A round has left: the last one has a neighbour in x. -/
def IndX (l : List Int) (x : Int) (b : Nat) (w : World) (c : Code) (pre : List (Mem x)) (W : World) : Prop := c = .ret ∧ (∃ y ∈ pre, bits .and .i64 x (nth l y.1) ≠ 0) ∧ W.cell? ⟨b + 1 + 1, 0, none⟩ = some (.bool false) ∧ Below w.heap.size w W

set_option maxHeartbeats 2000000 in
set_option maxRecDepth 100000 in
theorem implIndep (n : Int) (v : Value) (l : List Int) (x : Int) (w : World) (h : Ints w v l) :
    Calls Tryd.prog 80 #[.agg #[.int .i64 n, v], .int .i64 x] w (SaysB (IndepS n l x) w) := by
  obtain ⟨a, cap, rfl, -, -⟩ := h.form
  have HI := Lib.hid h
  clear h
  refine (callsIn_wide (n := 4)).1 ?_
  refine callsIn_of_wp_marks Tryd.func80 rfl trivial ?_ rfl
  simp only [Tryd.ntmps80, List.size_toArray, List.length_cons, List.length_nil, Nat.reduceAdd, Nat.reduceSub, Array.replicate_succ, Array.replicate_zero, List.push_toArray, List.append_toArray, List.nil_append, List.cons_append]
  have BX := Lib.hid (((BoxG.new w 26 n (.slice a l.length cap) ⟨_, _, _, rfl⟩).keep (grown_alloc _ (.cells #[.int .i64 x] 3) none) (by simp)).keep (grown_alloc _ (.cells #[.bool false] 4) none) (by simp))
  have II := Lib.hid (((HI.out.alloc (.cells #[.int .i64 n, .slice a l.length cap] 26)).alloc (.cells #[.int .i64 x] 3)).alloc (.cells #[.bool false] 4))
  have BB := Lib.hid ((((Below.refl _ w).alloc (Nat.le_refl _) (.cells #[.int .i64 n, .slice a l.length cap] 26)).alloc (by simp) (.cells #[.int .i64 x] 3)).alloc (by simp <;> omega) (.cells #[.bool false] 4))
  obtain ⟨W0, hW0⟩ : ∃ W0, W0 = ((w.alloc (.cells #[.int .i64 n, .slice a l.length cap] 26)).alloc (.cells #[.int .i64 x] 3)).alloc (.cells #[.bool false] 4) := ⟨_, rfl⟩
  have S0 : W0.cell? ⟨w.heap.size + 1, 0, none⟩ = some (.int .i64 x) := by rw [hW0]; simp [go_sem]
  have R0 : W0.cell? ⟨w.heap.size + 1 + 1, 0, none⟩ = some (.bool false) := by rw [hW0]; simp [go_sem]
  have R1 : W0.frozen? ⟨w.heap.size + 1 + 1, 0, none⟩ = false := by rw [hW0]; simp [go_sem]
  have Z0 : W0.heap.size = w.heap.size + 3 := by rw [hW0]; simp
  rw [← hW0] at BX II BB
  gi_wp2_with fail
  rw [← hW0]
  refine ⟨trivial, (callsIn_wide.2 (implIsSet n _ l x _ II.out)).mono ?_⟩
  rintro e w1 ⟨r, rfl, hr, hb⟩
  clear hW0
  have BX1 := Lib.hid (BX.out.keep (below_grown hb) (by simp))
  have II1 := Lib.hid (II.out.on hb)
  have BB1 := Lib.hid (BB.out.trans (hb.mono BB.out.size))
  have S1 : w1.cell? ⟨w.heap.size + 1, 0, none⟩ = some (.int .i64 x) := (hb.cell (p := ⟨w.heap.size + 1, 0, none⟩) (by show w.heap.size + 1 < W0.heap.size; omega)).trans S0
  have T1 : w1.cell? ⟨w.heap.size + 1 + 1, 0, none⟩ = some (.bool false) := (hb.cell (p := ⟨w.heap.size + 1 + 1, 0, none⟩) (by show w.heap.size + 1 + 1 < W0.heap.size; omega)).trans R0
  have U1 : w1.frozen? ⟨w.heap.size + 1 + 1, 0, none⟩ = false := (hb.frozen (p := ⟨w.heap.size + 1 + 1, 0, none⟩) (by show w.heap.size + 1 + 1 < W0.heap.size; omega)).trans R1
  have Z1 : w.heap.size + 3 ≤ w1.heap.size := by have := hb.size; omega
  clear hb S0 R0 R1 Z0 BX II BB
  obtain ⟨c0, c1, cz⟩ := BX1.out
  cases r with
  | false =>
    have HN := Lib.hid (show ¬ IsS n l x by simpa using hr)
    clear hr
    gi_wp2
    refine ⟨.bool false, by simp [results, Tryd.f80, go_sem, T1], SaysB.no (fun h => HN.out h.1) ?_⟩
    exact BB1.out.setCell (by simp <;> omega) _
  | true =>
    have HG := Lib.hid (hr.1 rfl)
    clear hr
    obtain ⟨W2, hW2⟩ : ∃ W2, W2 = w1.alloc (.cells #[.int .i64 x] 3) := ⟨_, rfl⟩
    have K : Hid (∀ W, Below W2.heap.size W2 W → W.cell? ⟨w.heap.size + 1, 0, none⟩ = some (.int .i64 x) ∧ BoxG w.heap.size n (.slice a l.length cap) W ∧ W.cell? ⟨w.heap.size + 1 + 1, 0, none⟩ = some (.bool false) ∧ W.frozen? ⟨w.heap.size + 1 + 1, 0, none⟩ = false ∧ Ints W (.slice a l.length cap) l ∧ Below w.heap.size w W ∧ w.heap.size + 3 ≤ W.heap.size) := fun W hb => by
      have hg : w1.grownBy W none := grown_trans (by rw [hW2]; exact grown_alloc w1 _ none) (below_grown hb)
      obtain ⟨hc, hf⟩ := gcell hg
      refine ⟨by rw [hc _ _ (by omega) (by simp)]; exact S1, BX1.out.keep hg (by simp), by rw [hc _ _ (by omega) (by simp)]; exact T1, by rw [hf _ _ (by omega) (by simp)]; exact U1, II1.out.on ⟨hg.os, hg.tape, hg.output, hg.size, fun k hk => hg.block k hk (by simp)⟩, BB1.out.grown hg BB1.out.size (fun k hk => by simp at hk), Nat.le_trans Z1 hg.size⟩
    have hcB : W2.cell? ⟨w1.heap.size, 0, none⟩ = some (.int .i64 x) := by rw [hW2]; simp [go_sem]
    have hz2 : W2.heap.size = w1.heap.size + 1 := by rw [hW2]; simp
    gi_wp2_with fail
    refine ⟨trivial, (callsIn_wide.2 (verticesIn_is x _)).mono ?_⟩
    rintro e w2 ⟨rfl, hw2⟩
    obtain rfl : w2 = W2 := by rw [hW2]; exact hw2.symm
    clear hw2 hW2 c0 c1 cz S1 T1 U1
    gi_wp2_with fail
    refine wpIn_rangeFunc_ownF (w0 := w2) rfl (by omega) (gf := 108) (lb := #[.pointer (some ⟨w1.heap.size, 0, none⟩)]) rfl trivial (enters_of Tryd.func108 (by kernel_rfl) rfl)
      (vin_stops Fence.wide 3 trivial rfl (by omega) w1.heap.size w2.heap.size x w2 (by omega) (by omega) hcB) belowK_t (belowK_b (Nat.le_refl _)) (Below.refl _ _) (fun _ => rfl)
      (IndI l x w2) (IndX l x w.heap.size w)
      (fun s A B row hs hg hr => ⟨hs.1, ownFrom_below (β := List (Mem x)) (Nat.le_refl _) (Nat.le_refl _) s A B row hs.2 hg hr⟩)
      (fun c s A B row hs hg hr => ⟨hs.1, hs.2.1, cell_kept hs.2.2.1 hg (fun r e => (hr r e).2), ownFrom_below (β := List (Mem x)) (Nat.le_refl _) (by omega) s A B row hs.2.2.2 hg hr⟩)
      ⟨fun y hy => (by cases hy), Below.refl _ _⟩
      (fun y => { tmps := #[.agg #[.int .i64 n, .slice a l.length cap], .int .i64 x, .pointer (some ⟨w.heap.size, 0, none⟩), .pointer (some ⟨w.heap.size + 1, 0, none⟩), .pointer (some ⟨w.heap.size + 1 + 1, 0, none⟩), .int .i64 (y.1 : Int), .agg #[.int .i64 n, .slice a l.length cap], .int .i64 x, .bool true, .bool false, .int .i64 x, .func (.func 108) #[] #[.pointer (some ⟨w1.heap.size, 0, none⟩)], .int .i64 (y.1 : Int), undef, undef, undef, undef, undef, undef, undef, undef], defers := [] }) ?assign ?body ?done ?stop
    case assign =>
      intro l y W K hK
      gi_wp2
      exact hK
    case body =>
      rintro li pre y W ⟨hpre, hB⟩ hlen
      obtain ⟨d0, ⟨d1, d2, dz⟩, d3, d4, dI, dB, dZ⟩ := K.out W hB
      obtain ⟨k, hk7, hkb⟩ := y
      have hkl : k < l.length := by
        rcases Nat.lt_or_ge k l.length with h | h
        · exact h
        · have h1 := HG.out.2.2
          rw [show n.toNat = l.length by have := HG.out.1.2.2.1; omega] at h1
          have := bit_high x l.length k HG.out.2.1 h1 h
          rw [hkb] at this
          exact absurd this (by decide)
      obtain ⟨b', off', cap', hv, _, hmx, hb', hcell⟩ := dI.pos (by omega)
      simp only [Value.slice.injEq] at hv
      obtain ⟨rfl, -, rfl⟩ := hv
      obtain ⟨z, hz⟩ : ∃ z, z = nth l k := ⟨_, rfl⟩
      have c1 := hcell k hkl
      rw [← hz] at c1
      obtain ⟨t, ht⟩ : ∃ t, t = bits .and .i64 x z := ⟨_, rfl⟩
      have e1 : bits .and .i64 x z = t := ht.symm
      have HZ := Lib.hid hz
      have HT := Lib.hid ht
      have HPRE := Lib.hid hpre
      have HBW := Lib.hid hB
      have HDB := Lib.hid dB
      unfold maxLen at hmx
      clear hcell hz ht hpre hB dB dI
      have hmix : Tryd.prog.follows .mixedOrders = true := by kernel_rfl
      by_cases h0 : t = 0
      · subst h0
        gi_wp2
        gi_region_with_o (fail)
        all_goals gi_wp2
        all_goals
          refine ⟨KeepsOthers.drew _, (Below.refl _ _).drew, ⟨fun y hy => ?_, HBW.out.drew⟩⟩
          rcases List.mem_append.1 hy with hy | hy
          · exact HPRE.out y hy
          · simp at hy
            subst hy
            show bits .and .i64 x (nth l k) = 0
            rw [← HZ.out, ← HT.out]
      · have q1 : (t == 0) = false := by simp [h0]
        have q2 : (t != 0) = true := by simp [h0]
        gi_wp2
        gi_region_with_o (fail)
        all_goals gi_wp2
        all_goals
          refine ⟨(KeepsOthers.drew _).trans (KeepsOthers.setCell _ _ _), ⟨rfl, ⟨⟨k, hk7, hkb⟩, by simp, ?_⟩, ?_, HDB.out.drew.setCell (by simp <;> omega) _⟩⟩
          · show bits .and .i64 x (nth l k) ≠ 0
            rw [← HZ.out, ← HT.out]; exact h0
          · exact World.cell?_setCell_same' _ _ _ (by show (W.cell? _).isSome = true; rw [d3]; rfl)
    case done =>
      rintro D ys W hD hys ⟨hall, hB⟩ hK
      obtain ⟨d0, d1, d3, d4, dI, dB, dZ⟩ := K.out W hB
      have HA := Lib.hid hall
      have HDB := Lib.hid dB
      clear hall hB dB dI
      gi_wp2
      have hK' := (KeepsOthers.setCell W ⟨w.heap.size + 1 + 1, 0, none⟩ (.bool true)).same D _ hK rfl
      refine ⟨by simp, .inl ⟨_, _, rfl, run_takeDeferred hK', ?_⟩⟩
      have hc5 := cell_kept (World.cell?_setCell_same' W ⟨w.heap.size + 1 + 1, 0, none⟩ (.bool true) (by rw [d3]; rfl)) (grownBy_putObj' _ D (.deferred none)) (fun r e => by cases e; exact ⟨_, hK', rfl⟩)
      refine ⟨.bool true, by simp [results, Tryd.f80, go_sem, hc5], SaysB.yes ⟨HG.out, fun k hkl hkb => ?_⟩ ((HDB.out.setCell (p := ⟨w.heap.size + 1 + 1, 0, none⟩) (by simp <;> omega) _).trans (belowK_b (w := w) (Nat.le_refl _) _ D _ _ (by omega) hK' rfl rfl))⟩
      have hk7 : k < 7 := by have := HG.out.1.2.2.1; have := HG.out.1.2.1; omega
      have hm : k ∈ memU x 7 := by unfold memU; simp [hk7, hkb]
      rw [← hys] at hm
      obtain ⟨y, hy, rfl⟩ := List.mem_map.1 hm
      exact HA.out y hy
    case stop =>
      rintro D c pre W hD hpre ⟨rfl, ⟨y, hy, hne⟩, hcr, hB⟩ hK
      have HB := Lib.hid hB
      have HNE := Lib.hid hne
      clear hB hne
      gi_wp2
      refine ⟨by simp, .inl ⟨_, _, rfl, run_takeDeferred hK, ?_⟩⟩
      have hc5 := cell_kept hcr (grownBy_putObj' _ D (.deferred none)) (fun r e => by cases e; exact ⟨_, hK, rfl⟩)
      refine ⟨.bool false, by simp [results, Tryd.f80, go_sem, hc5], SaysB.no (fun h => ?_) (HB.out.trans (belowK_b (w := w) (Nat.le_refl _) W D _ _ (by omega) hK rfl rfl))⟩
      have hyl : y.1 < l.length := by
        rcases Nat.lt_or_ge y.1 l.length with h' | h'
        · exact h'
        · have h1 := HG.out.2.2
          rw [show n.toNat = l.length by have := HG.out.1.2.2.1; omega] at h1
          have := bit_high x l.length y.1 HG.out.2.1 h1 h'
          rw [y.2.2] at this
          exact absurd this (by decide)
      exact HNE.out (h.2 y.1 hyl y.2.2)

end Go.Proofs.YteikiifjiapjaacDoor
