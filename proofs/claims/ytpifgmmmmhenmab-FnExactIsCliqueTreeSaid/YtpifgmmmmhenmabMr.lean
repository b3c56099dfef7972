/- impl.commonNeighbors. -/
import Derived.Test.YtpifgmmmmhenmabMq
import Derived.Test.YtpifgmmmmhenmabV5
namespace Go.Proofs.Ytpifgmmmmhenmab
set_option linter.unusedVariables false
set_option linter.unusedSimpArgs false
open Go.RowKit Go.Shelf
attribute [local go_sem] Oper.semAt_some

/-- Between two rounds: the box holds what those that have come have in common. -/
def ComI (l : List Int) (X S q : Nat) (w2 : World) (pre : List (Mem (X : Int))) (W : World) : Prop := Boxed W q 3 (.int .i64 ((andN (rowN l) S (pre.map (·.1)) : Nat) : Int)) ∧ w2.grownBy W (some q)

theorem comI_own {l : List Int} {X S q : Nat} {w2 : World} (hq : q < w2.heap.size) : OwnFrom w2.heap.size (ComI l X S q w2) := fun s A B row hs hg hr =>
  ⟨hs.1.kept hg (fun e => by have := (hr q e.symm).1; omega), grown_then hs.2 hg fun r e => (hr r e).1⟩

set_option maxHeartbeats 2000000 in
set_option maxRecDepth 100000 in
theorem implCommon (n : Int) (v : Value) (l : List Int) (X : Nat) (w : World) (h : Ints w v l) (hgr : IsG n l) (hX2 : X < 2 ^ l.length) :
    Calls Try.prog 75 #[.agg #[.int .i64 n, v], .int .i64 (X : Int)] w (SaysN ((comN l X : Nat) : Int) w) := by
  obtain ⟨a, cap, rfl, -, -⟩ := h.form
  have HI := Lib.hid h
  have HG := Lib.hid hgr
  have hl7 : l.length ≤ 7 := by have := hgr.2.1; have := hgr.2.2.1; omega
  have hX7 : X < 128 := Nat.lt_of_lt_of_le hX2 (two_le _ hl7)
  have HX2 := Lib.hid hX2
  have hn1 := hgr.1
  have hn7 := hgr.2.1
  have hnl : n.toNat = l.length := by have := hgr.2.2.1; omega
  obtain ⟨S, hS⟩ : ∃ S, S = 2 ^ l.length - 1 := ⟨_, rfl⟩
  have hpp : 0 < 2 ^ l.length := Nat.pow_pos (by decide)
  have hS2 : S < 2 ^ l.length := by omega
  have hS7 : S < 128 := Nat.lt_of_lt_of_le hS2 (two_le _ hl7)
  have HSE := Lib.hid hS
  have HALL := Lib.hid (show (2 : Int) ^ n.toNat - 1 = (S : Int) by
    rw [hnl, hS]
    have : ((2 ^ l.length : Nat) : Int) = (2 : Int) ^ l.length := by push_cast; rfl
    omega)
  obtain ⟨R, hR⟩ : ∃ R, R = comN l X := ⟨_, rfl⟩
  have HRR := Lib.hid (show R = andN (rowN l) S (memN X) by rw [hR, hS]; rfl)
  rw [← hR]
  clear h hgr hX2 hS hpp hS2 hR
  refine (callsIn_wide (n := 4)).1 ?_
  refine callsIn_of_wp_marks Try.func75 rfl trivial ?_ rfl
  simp only [Try.ntmps75, List.size_toArray, List.length_cons, List.length_nil, Nat.reduceAdd, Nat.reduceSub, Array.replicate_succ, Array.replicate_zero, List.push_toArray, List.append_toArray, List.nil_append, List.cons_append]
  obtain ⟨W0, hW0⟩ : ∃ W0, W0 = w.alloc (.cells #[.int .i64 n, .slice a l.length cap] 27) := ⟨_, rfl⟩
  have BX := Lib.hid (show BoxG w.heap.size n (.slice a l.length cap) W0 by rw [hW0]; exact BoxG.new w 27 n (.slice a l.length cap) ⟨_, _, _, rfl⟩)
  have II := Lib.hid (show Ints W0 (.slice a l.length cap) l by rw [hW0]; exact HI.out.alloc _)
  have BB := Lib.hid (show Below w.heap.size w W0 by rw [hW0]; exact (Below.refl _ w).alloc (Nat.le_refl _) _)
  have hz0 : w.heap.size < W0.heap.size := by rw [hW0]; simp
  gi_wp2_with fail
  rw [← hW0]
  refine ⟨trivial, (callsIn_wide.2 (allVertices_is n _ l _ II.out hn1 hn7)).mono ?_⟩
  rintro e w1 ⟨rfl, hb⟩
  rw [HALL.out]
  clear hW0
  have BX1 := Lib.hid (BX.out.keep (below_grown hb) (by simp))
  have II1 := Lib.hid (II.out.on hb)
  have BB1 := Lib.hid (BB.out.trans (hb.mono BB.out.size))
  have hz1 : w.heap.size < w1.heap.size := Nat.lt_of_lt_of_le hz0 hb.size
  clear hb BX II BB hz0
  obtain ⟨c0, c1, cz⟩ := BX1.out
  obtain ⟨q, hq⟩ : ∃ q, q = w1.heap.size := ⟨_, rfl⟩
  obtain ⟨Wa, hWa⟩ : ∃ Wa, Wa = w1.alloc (.cells #[.int .i64 S] 3) := ⟨_, rfl⟩
  have Q1 : Boxed Wa q 3 (.int .i64 (S : Int)) := by rw [hWa, hq]; exact Boxed.new w1 _ _
  have hza : Wa.heap.size = q + 1 := by rw [hWa, hq]; simp
  have G1 : w1.grownBy Wa none := by rw [hWa]; exact grown_alloc _ _ _
  obtain ⟨W2, hW2⟩ : ∃ W2, W2 = Wa.alloc (.cells #[.int .i64 X] 3) := ⟨_, rfl⟩
  have Q2 : Boxed W2 q 3 (.int .i64 (S : Int)) := by rw [hW2]; exact Q1.alloc _
  have hcB : W2.cell? ⟨q + 1, 0, none⟩ = some (.int .i64 X) := by rw [hW2, ← hza]; simp [go_sem]
  have hz2 : W2.heap.size = q + 2 := by rw [hW2]; simp [hza]
  have G2 : w1.grownBy W2 none := grown_trans G1 (by rw [hW2]; exact grown_alloc _ _ _)
  have K : Hid (∀ W, W2.grownBy W (some q) → BoxG w.heap.size n (.slice a l.length cap) W ∧ Ints W (.slice a l.length cap) l ∧ Below w.heap.size w W ∧ q + 2 ≤ W.heap.size) := fun W hg => by
    have hg1 : w1.grownBy W none := G2.andThen hg fun j hj => .inl (by have := Option.some.inj hj; omega)
    exact ⟨BX1.out.keep hg1 (by simp), II1.out.on ⟨hg1.os, hg1.tape, hg1.output, hg1.size, fun k hk => hg1.block k hk (by simp)⟩, BB1.out.grown hg1 BB1.out.size (fun k hk => by simp at hk), by have := hg.size; omega⟩
  clear Q1 G1 G2
  have hwq : w.heap.size ≤ q := by omega
  gi_wp2_with fail
  rw [← hWa]
  refine ⟨trivial, (callsIn_wide.2 (verticesIn_is X _)).mono ?_⟩
  rintro e w2 ⟨rfl, hw2⟩
  obtain rfl : w2 = W2 := by rw [hW2]; exact hw2.symm
  rw [hza, ← hq]
  clear hw2 hW2 hWa c0 c1 cz hza hq
  gi_wp2_with fail
  refine wpIn_rangeFunc_ownF (w0 := w2) rfl (by omega) (gf := 108) (lb := #[.pointer (some ⟨q + 1, 0, none⟩)]) rfl trivial (enters_of Try.func108 (by kernel_rfl) rfl)
    (vin_stopsC Fence.wide 3 trivial rfl (by omega) (q + 1) X w2 (by omega) hcB) keepC_t (keepC_b (by omega)) (Below.refl _ _) (fun _ => rfl)
    (ComI l X S q w2) (fun _ _ _ => False) (comI_own (by omega)) (fun _ _ _ _ _ hs _ _ => hs) ⟨Q2, World.grownBy.refl _ _⟩
    (fun y => { tmps := #[.agg #[.int .i64 n, .slice a l.length cap], .int .i64 (X : Int), .pointer (some ⟨w.heap.size, 0, none⟩), undef, .int .i64 0, .pointer (some ⟨q, 0, none⟩), .int .i64 (y.1 : Int), .agg #[.int .i64 n, .slice a l.length cap], .int .i64 (S : Int), .int .i64 (X : Int), .func (.func 108) #[] #[.pointer (some ⟨q + 1, 0, none⟩)], .int .i64 (y.1 : Int), undef, undef, undef, undef, undef, undef, undef, undef], defers := [] }) ?assign ?body ?done ?stop
  case assign =>
    intro l y W K hK
    gi_wp2
    exact hK
  case body =>
    rintro li pre y W ⟨hQ, hB⟩ hlen
    obtain ⟨⟨d1, d2, dz⟩, dI, dB, dZ⟩ := K.out W hB
    obtain ⟨k, hk7, hkb⟩ := y
    have hkl : k < l.length := bit_lt HX2.out ((bitAt_nat X k).1 hkb)
    obtain ⟨b', off', cap', hv, _, hmx, hb', hcell⟩ := dI.pos (by omega)
    simp only [Value.slice.injEq] at hv
    obtain ⟨rfl, -, rfl⟩ := hv
    obtain ⟨hZ2, hZ⟩ := HG.out.row_lt k hkl
    obtain ⟨Z, hZ'⟩ : ∃ Z, Z = rowN l k := ⟨_, rfl⟩
    rw [← hZ'] at hZ2 hZ
    have hZ7 : Z < 128 := Nat.lt_of_lt_of_le hZ2 (two_le _ hl7)
    have e1 := hcell k hkl
    rw [hZ] at e1
    obtain ⟨A, hA⟩ : ∃ A, A = andN (rowN l) S (pre.map (·.1)) := ⟨_, rfl⟩
    have hA7 : A < 128 := by rw [hA]; exact Nat.lt_of_le_of_lt (andN_le _ _ _) hS7
    rw [← hA] at hQ
    have f1 := hQ.cell
    have f2 := hQ.frozen
    have o1 := (bits_nat A Z hA7 hZ7).1
    have HE := Lib.hid (show andN (rowN l) S ((pre ++ [(⟨k, hk7, hkb⟩ : Mem (X : Int))]).map (·.1)) = A &&& Z by rw [List.map_append, hA, hZ']; exact andN_snoc _ _ _ _)
    obtain ⟨C, hC⟩ : ∃ C, C = A &&& Z := ⟨_, rfl⟩
    rw [← hC] at o1 HE
    have HQ := Lib.hid hQ
    have HBW := Lib.hid hB
    unfold maxLen at hmx
    clear hcell hZ hZ' hZ2 hA hQ hB dB dI hC
    have hmix : Try.prog.follows .mixedOrders = true := by kernel_rfl
    gi_wp2
    refine wpIn_region_still_tail 7 hmix (by kernel_rfl) (by kernel_rfl) ?_
    simp only [List.take_succ_cons, List.take_zero, List.drop_succ_cons, List.drop_zero]
    repeat still_step
    refine wpStill_nil ?_
    gi_wp2
    have hQ' : Boxed W.drew q 3 (.int .i64 (A : Int)) := HQ.out
    refine ⟨(KeepsOthers.drew W).trans (KeepsOthers.setCell _ _ _), World.cell?_setCell_far _ _ _ _ (by show q ≠ q + 1; omega), ?_, ?_⟩
    · rw [HE.out]; exact hQ'.set _
    · exact (HBW.out.trans ⟨rfl, rfl, rfl, Nat.le_refl _, fun _ _ _ => rfl⟩ : w2.grownBy W.drew (some q)).trans (grownBy_setCell' _ _ _)
  case done =>
    rintro D ys W hD hys ⟨hQ, hB⟩ hK
    obtain ⟨⟨d1, d2, dz⟩, dI, dB, dZ⟩ := K.out W hB
    have f1 := hQ.cell
    have HDB := Lib.hid dB
    have HE := Lib.hid (show andN (rowN l) S (ys.map (·.1)) = R by rw [hys, memU_nat, HRR.out])
    clear hQ hB dB dI hys
    gi_wp2
    refine ⟨by simp, .inl ⟨_, _, rfl, run_takeDeferred hK, ?_⟩⟩
    exact ⟨_, results_tmp rfl _ _ _, by rw [← HE.out]; rfl, HDB.out.trans (belowK_b (w := w) (Nat.le_refl _) W D _ _ (by omega) hK rfl rfl)⟩
  case stop =>
    rintro D c pre W hD hpre h hK
    exact h.elim

end Go.Proofs.Ytpifgmmmmhenmab
