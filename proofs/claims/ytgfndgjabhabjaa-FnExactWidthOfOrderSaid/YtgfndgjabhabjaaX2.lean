/- impl.joinAll: all vertices of a set are joined. -/
import Derived.Test.YtgfndgjabhabjaaX1
import Derived.Test.YtgfndgjabhabjaaV5
import Derived.Test.YtgfndgjabhabjaaR
import Derived.Test.YtgfndgjabhabjaaGl
namespace Go.Proofs.Ytgfndgjabhabjaa
set_option linter.unusedVariables false
set_option linter.unusedSimpArgs false
open Go.RowKit Go.Shelf
attribute [local go_sem] Oper.semAt_some

def JoinI (B n g cap : Nat) (P : Nat → Nat → Bool) (X : Nat) (w2 : World) (pre : List (Mem (X : Int))) (W : World) : Prop :=
  OwnI B W (.slice (some ⟨g, 0, none⟩) n cap) (adjL n (joinS P X (pre.map (·.1)))) ∧ w2.grownBy W (some g)

theorem joinI_own {B n g cap : Nat} {P : Nat → Nat → Bool} {X : Nat} {w2 : World} (hg : g < w2.heap.size) : OwnFrom w2.heap.size (JoinI B n g cap P X w2) := fun s A C row hs hg' hr =>
  ⟨hs.1.kept hg' (.inr (fun e => by simp only [Value.ownBlock] at e; have := (hr g e.symm).1; omega)), grown_then hs.2 hg' fun r e => (hr r e).1⟩

set_option maxHeartbeats 2000000 in
set_option maxRecDepth 100000 in
theorem implJoin (B n q g cap : Nat) (P : Nat → Nat → Bool) (X : Nat) (w : World) (h7 : n ≤ 7) (hX : X < 2 ^ n) (hb : BoxG q (n : Int) (.slice (some ⟨g, 0, none⟩) n cap) w) (ho : OwnI B w (.slice (some ⟨g, 0, none⟩) n cap) (adjL n P)) (hgq : g ≠ q) :
    Calls Try.prog 80 #[.pointer (some ⟨q, 0, none⟩), .int .i64 X] w fun e w' => e = .returned (.tuple #[]) ∧ OwnI B w' (.slice (some ⟨g, 0, none⟩) n cap) (adjL n (joinP P X)) ∧ w.grownBy w' (some g) := by
  have hX7 : X < 128 := by have := two_le n h7; omega
  have hgw : g < w.heap.size := (ho.lt g rfl).2
  have HB := Lib.hid hb
  have HO := Lib.hid ho
  have hqw := hb.2.2
  clear hb ho
  refine (callsIn_wide (n := 4)).1 ?_
  refine callsIn_of_wp_marks Try.func80 rfl trivial ?_ rfl
  simp only [Try.ntmps80, List.size_toArray, List.length_cons, List.length_nil, Nat.reduceAdd, Nat.reduceSub, Array.replicate_succ, Array.replicate_zero, List.push_toArray, List.append_toArray, List.nil_append, List.cons_append]
  obtain ⟨W0, hW0⟩ : ∃ W0, W0 = (w.alloc (.cells #[.pointer (some ⟨q, 0, none⟩)] 90)).alloc (.cells #[.int .i64 X] 3) := ⟨_, rfl⟩
  have G0 : w.grownBy W0 none := by rw [hW0]; exact grown_trans (grown_alloc _ _ _) (grown_alloc _ _ _)
  have p0 : W0.cell? ⟨w.heap.size, 0, none⟩ = some (.pointer (some ⟨q, 0, none⟩)) := by rw [hW0]; simp [go_sem]
  have p1 : W0.cell? ⟨w.heap.size + 1, 0, none⟩ = some (.int .i64 X) := by rw [hW0]; simp [go_sem]
  have z0 : W0.heap.size = w.heap.size + 2 := by rw [hW0]; simp
  obtain ⟨W2, hW2⟩ : ∃ W2, W2 = W0.alloc (.cells #[.int .i64 X] 3) := ⟨_, rfl⟩
  have G1 : W0.grownBy W2 none := by rw [hW2]; exact grown_alloc _ _ _
  have G2 := Lib.hid (grown_trans G0 G1)
  have hcB : W2.cell? ⟨w.heap.size + 2, 0, none⟩ = some (.int .i64 X) := by rw [hW2, ← z0]; simp [go_sem]
  have z2 : W2.heap.size = w.heap.size + 3 := by rw [hW2]; simp [z0]
  have P0 := Lib.hid (((gcell G1).1 w.heap.size 0 (by omega) (by simp)).trans p0)
  have P1 := Lib.hid (((gcell G1).1 (w.heap.size + 1) 0 (by omega) (by simp)).trans p1)
  have O2 := Lib.hid (HO.out.kept G2.out (.inr (by simp [Value.ownBlock])))
  have K : Hid (∀ W, W2.grownBy W (some g) → W.cell? ⟨w.heap.size, 0, none⟩ = some (.pointer (some ⟨q, 0, none⟩)) ∧ W.cell? ⟨w.heap.size + 1, 0, none⟩ = some (.int .i64 X) ∧ W.cell? ⟨q, 1, none⟩ = some (.slice (some ⟨g, 0, none⟩) n cap) ∧ w.grownBy W (some g) ∧ w.heap.size + 3 ≤ W.heap.size) := fun W hg => by
    obtain ⟨hc, -⟩ := gcell hg
    refine ⟨(hc _ _ (by omega) (by simp; omega)).trans P0.out, (hc _ _ (by omega) (by simp; omega)).trans P1.out, ?_, ?_, by have := hg.size; omega⟩
    · exact (hc q 1 (by omega) (by simp; exact fun e => hgq e.symm)).trans (((gcell G2.out).1 q 1 hqw (by simp)).trans HB.out.2.1)
    · exact grown_trans (⟨G2.out.os, G2.out.tape, G2.out.output, G2.out.size, fun k hk _ => G2.out.block k hk (by simp)⟩ : w.grownBy W2 (some g)) hg
  clear G0 G1 p0 hcB
  have hcB : W2.cell? ⟨w.heap.size + 2, 0, none⟩ = some (.int .i64 X) := by rw [hW2, ← z0]; simp [go_sem]
  gi_wp2_with fail
  rw [← hW0]
  refine ⟨trivial, (callsIn_wide.2 (verticesIn_is X _)).mono ?_⟩
  rintro e w2 ⟨rfl, hw2⟩
  obtain rfl : w2 = W2 := by rw [hW2]; exact hw2.symm
  rw [z0]
  clear hw2 hW2 hW0 p1 z0
  gi_wp2_with fail
  refine wpIn_rangeFunc_ownF (w0 := w2) rfl (by omega) (gf := 113) (lb := #[.pointer (some ⟨w.heap.size + 2, 0, none⟩)]) rfl trivial (enters_of Try.func113 (by kernel_rfl) rfl)
    (vin_stopsC Fence.wide 3 trivial rfl (by omega) (w.heap.size + 2) X w2 (by omega) hcB) keepC_t (keepC_b (by omega)) (Below.refl _ _) (fun _ => rfl)
    (JoinI B n g cap P X w2) (fun _ _ _ => False) (joinI_own (by omega)) (fun _ _ _ _ _ hs _ _ => hs) ⟨by rw [List.map_nil, joinS_nil]; exact O2.out, World.grownBy.refl _ _⟩
    (fun y => { tmps := #[.pointer (some ⟨q, 0, none⟩), .int .i64 (X : Int), .pointer (some ⟨w.heap.size, 0, none⟩), .pointer (some ⟨w.heap.size + 1, 0, none⟩), .int .i64 (y.1 : Int), .int .i64 (X : Int), .func (.func 113) #[] #[.pointer (some ⟨w.heap.size + 2, 0, none⟩)], .int .i64 (y.1 : Int), undef, undef, undef, undef, undef, undef, undef, undef, undef, undef, undef, undef, undef], defers := [] }) ?assign ?body ?done ?stop
  case assign =>
    intro l y W K hK
    gi_wp2
    exact hK
  case body =>
    rintro li pre y W ⟨hQ, hB⟩ hlen
    obtain ⟨c0, c1, c2, -, -⟩ := K.out W hB
    obtain ⟨k, hk7, hkb⟩ := y
    have hkX : X.testBit k = true := (bitAt_nat X k).1 hkb
    have hkn : k < n := bit_lt hX hkX
    obtain ⟨Z, R, r1, r2, r3, r4, r5, r6, r7⟩ := join_row n h7 P X hX (pre.map (·.1)) k hkn hkX
    have hown := hQ
    rcases hQ.form with ⟨hs, -⟩ | ⟨g', cap', hs, -, -, hcap, hmax, hcells, hfz⟩
    · cases hs
    · rw [adjL_length] at hs hcells
      simp only [Value.slice.injEq, Option.some.injEq, Addr.mk.injEq] at hs
      obtain ⟨⟨rfl, -, -⟩, -, rfl⟩ := hs
      have d1 := hcells k hkn
      rw [r1] at d1
      have f1 := hfz k
      obtain ⟨D, hD⟩ : ∃ D, D = X - 2 ^ k := ⟨_, rfl⟩
      rw [← hD] at r3 r4 r5
      obtain ⟨PP, eP, hP1, hP2⟩ : ∃ P, (2 : Int) ^ k = P ∧ 1 ≤ P ∧ P ≤ 128 := ⟨_, rfl, (shl_one' k (by omega)).2.2.2.2, (shl_one' k (by omega)).2.2.2.1⟩
      have g1 : IntKind.i64.wrap (1 * PP) = PP := IntWalk.i64_in _ (by omega) |>.trans (by omega)
      have g2 : IntKind.i64.wrap PP = PP := IntWalk.i64_in _ (by omega)
      rw [eP] at r3
      have HR7 := Lib.hid r7
      have HQ := Lib.hid hQ
      have HBW := Lib.hid hB
      have hkn' : k < cap := by rw [adjL_length] at hcap; omega
      unfold maxLen at hmax
      clear r1 r7 hQ hB hcells hfz hown hD hX
      have hmix : Try.prog.follows .mixedOrders = true := by kernel_rfl
      gi_wp2
      refine wpIn_region_still_tail 12 hmix (by kernel_rfl) (by kernel_rfl) ?_
      simp only [List.take_succ_cons, List.take_zero, List.drop_succ_cons, List.drop_zero]
      repeat still_step
      refine wpStill_nil ?_
      gi_wp2
      have h1 : OwnI B W.drew (.slice (some ⟨g, 0, none⟩) (adjL n (joinS P X (pre.map (·.1)))).length cap) (adjL n (joinS P X (pre.map (·.1)))) := by rw [adjL_length]; exact HQ.out.on ((Below.refl _ _).drew)
      obtain ⟨h2, h3⟩ := h1.set k (R : Int) (by omega) (by omega)
      rw [adjL_length, HR7.out] at h2
      refine ⟨(KeepsOthers.drew W).trans (KeepsOthers.setCell _ _ _), World.cell?_setCell_far _ _ _ _ (by show g ≠ w.heap.size + 2; omega), ?_, ?_⟩
      · rw [List.map_append]; exact h2
      · exact (HBW.out.trans ⟨rfl, rfl, rfl, Nat.le_refl _, fun _ _ _ => rfl⟩ : w2.grownBy W.drew (some g)).trans h3
  case done =>
    rintro D ys W hD hys ⟨hQ, hB⟩ hK
    obtain ⟨-, -, -, dG, -⟩ := K.out W hB
    have HQ := Lib.hid hQ
    have HG := Lib.hid dG
    have HE := Lib.hid (show adjL n (joinS P X (ys.map (·.1))) = adjL n (joinP P X) by rw [hys, memU_nat]; exact joinS_all n P X hX7)
    clear hQ hB dG hys
    gi_wp2
    refine ⟨by simp, .inl ⟨_, _, rfl, run_takeDeferred hK, ?_⟩⟩
    refine ⟨_, results_none rfl _ _ _, rfl, ?_, ?_⟩
    · rw [← HE.out]
      exact HQ.out.kept (grownBy_putObj' _ D _) (.inr (by simp [Value.ownBlock]; omega))
    · exact HG.out.andThen (grownBy_putObj' _ D _) fun j hj => .inl (by have := Option.some.inj hj; omega)
  case stop =>
    rintro D c pre W hD hpre h hK
    exact h.elim

end Go.Proofs.Ytgfndgjabhabjaa
