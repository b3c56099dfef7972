/- impl.hasTwin. -/
import Derived.Test.YtgfndgjabhabjabV2
import Derived.Test.YtgfndgjabhabjabRq
import Derived.Test.YtgfndgjabhabjabB
import Derived.Test.YtgfndgjabhabjabT5
import Derived.BigQuiet
namespace Go.Proofs.Ytgfndgjabhabjab
set_option linter.unusedVariables false
set_option linter.unusedSimpArgs false
open Go.RowKit Go.Shelf
attribute [local go_sem] Oper.semAt_some

/-- k and j have the same neighbours in X, themselves aside. -/
def twinP (l : List Int) (X k j : Nat) : Bool := bits .andNot .i64 (bits .and .i64 (bits .xor .i64 (nth l k) (nth l j)) (X : Int)) (bits .or .i64 (2 ^ k) (2 ^ j)) == 0

/-- Has k a twin in X? -/
def twinB (l : List Int) (X k : Nat) : Bool := (memN (X - 2 ^ k)).any (twinP l X k)

def TwnI (l : List Int) (X k X' : Nat) (w2 : World) (pre : List (Mem (X' : Int))) (W : World) : Prop := (∀ y ∈ pre, twinP l X k y.1 = false) ∧ Below w2.heap.size w2 W

def TwnX (l : List Int) (X k X' : Nat) (b : Nat) (w : World) (c : Code) (pre : List (Mem (X' : Int))) (W : World) : Prop := c = .ret ∧ (∃ y ∈ pre, twinP l X k y.1 = true) ∧ W.cell? ⟨b, 0, none⟩ = some (.bool true) ∧ Below w.heap.size w W

set_option maxHeartbeats 2000000 in
set_option maxRecDepth 100000 in
theorem implTwinB (n : Int) (v : Value) (l : List Int) (X k : Nat) (w : World) (h : Ints w v l) (hg : IsG n l) (hX : X < 2 ^ l.length) (hk : X.testBit k = true) :
    Calls Try.prog 62 #[.agg #[.int .i64 n, v], .int .i64 (X : Int), .int .i64 (k : Int)] w fun e w' => e = .returned (.bool (twinB l X k)) ∧ Below w.heap.size w w' := by
  obtain ⟨a, cap, rfl, -, -⟩ := h.form
  have HI := Lib.hid h
  have HG := Lib.hid hg
  have hl7 : l.length ≤ 7 := by have := hg.2.1; have := hg.2.2.1; omega
  have h128 := two_le l.length hl7
  have hX7 : X < 128 := by omega
  have hkl : k < l.length := bit_lt hX hk
  obtain ⟨P2, eP2, hP21, hP22⟩ : ∃ P, (2 : Int) ^ k = P ∧ 1 ≤ P ∧ P ≤ 128 := ⟨_, rfl, (shl_one' k (by omega)).2.2.2.2, (shl_one' k (by omega)).2.2.2.1⟩
  have g1 : IntKind.i64.wrap (1 * P2) = P2 := IntWalk.i64_in _ (by omega) |>.trans (by omega)
  have g2 : IntKind.i64.wrap P2 = P2 := IntWalk.i64_in _ (by omega)
  obtain ⟨X', hX'⟩ : ∃ X', X' = X - 2 ^ k := ⟨_, rfl⟩
  have hAN : bits .andNot .i64 (X : Int) P2 = (X' : Int) := by
    have e2 : P2 = ((2 ^ k : Nat) : Int) := by rw [← eP2]; push_cast; rfl
    have hs : Sub (2 ^ k) X := fun i hi => by
      rw [Nat.testBit_two_pow] at hi
      obtain rfl := of_decide_eq_true hi
      exact hk
    rw [e2, hX']
    exact andNot_nat hX7 hs
  have hX'l : X' < 2 ^ l.length := by rw [hX']; exact Nat.lt_of_le_of_lt (Nat.sub_le _ _) hX
  have HX'l := Lib.hid hX'l
  have HP2 := Lib.hid eP2
  have HTB := Lib.hid (show twinB l X k = (memN X').any (twinP l X k) by rw [hX']; rfl)
  have hX'7 : X' < 128 := by omega
  clear h hg hX hk hX' hX'l
  refine (callsIn_wide (n := 5)).1 ?_
  refine callsIn_of_wp_marks Try.func62 rfl trivial ?_ rfl
  simp only [Try.ntmps62, List.size_toArray, List.length_cons, List.length_nil, Nat.reduceAdd, Nat.reduceSub, Array.replicate_succ, Array.replicate_zero, List.push_toArray, List.append_toArray, List.nil_append, List.cons_append]
  obtain ⟨W0, hW0⟩ : ∃ W0, W0 = (((w.alloc (.cells #[.int .i64 n, .slice a l.length cap] 28)).alloc (.cells #[.int .i64 (X : Int)] 3)).alloc (.cells #[.int .i64 (k : Int)] 3)).alloc (.cells #[.bool false] 4) := ⟨_, rfl⟩
  have GG : (w.alloc (.cells #[.int .i64 n, .slice a l.length cap] 28)).grownBy W0 none := by rw [hW0]; exact grown_trans (grown_trans (grown_alloc _ _ none) (grown_alloc _ _ none)) (grown_alloc _ _ none)
  have BX := Lib.hid ((BoxG.new w 28 n (.slice a l.length cap) ⟨_, _, _, rfl⟩).keep GG (by simp))
  have BB := Lib.hid (show Below w.heap.size w W0 from ((Below.refl _ w).alloc (Nat.le_refl _) (.cells #[.int .i64 n, .slice a l.length cap] 28)).grown GG (by simp) (fun r e => by cases e))
  have S0 : W0.cell? ⟨w.heap.size + 1, 0, none⟩ = some (.int .i64 X) := by rw [hW0]; simp [go_sem]
  have V0 : W0.cell? ⟨w.heap.size + 1 + 1, 0, none⟩ = some (.int .i64 k) := by rw [hW0]; simp [go_sem]
  have R0 : W0.cell? ⟨w.heap.size + 1 + 1 + 1, 0, none⟩ = some (.bool false) := by rw [hW0]; simp [go_sem]
  have R1 : W0.frozen? ⟨w.heap.size + 1 + 1 + 1, 0, none⟩ = false := by rw [hW0]; simp [go_sem]
  have Z0 : W0.heap.size = w.heap.size + 4 := by rw [hW0]; simp
  have hS : ∀ Y : Since W0, Y.val.cell? ⟨w.heap.size + 1, 0, none⟩ = some (.int .i64 X) := fun Y => (Y.prop.cell (p := ⟨w.heap.size + 1, 0, none⟩) (by show w.heap.size + 1 < W0.heap.size; omega)).trans S0
  have hV : ∀ Y : Since W0, Y.val.cell? ⟨w.heap.size + 1 + 1, 0, none⟩ = some (.int .i64 k) := fun Y => (Y.prop.cell (p := ⟨w.heap.size + 1 + 1, 0, none⟩) (by show w.heap.size + 1 + 1 < W0.heap.size; omega)).trans V0
  have hmix : Try.prog.follows .mixedOrders = true := by kernel_rfl
  have HS0 := Lib.hid S0
  have HV0 := Lib.hid V0
  have HR0 := Lib.hid R0
  have HR1 := Lib.hid R1
  have HZ0 := Lib.hid Z0
  clear GG S0 V0 R0 R1 Z0
  gi_wp2_with fail
  rw [← hW0]
  clear hW0
  refine wpIn_region_since_tailF open_wide 4 hmix (by kernel_rfl) (by kernel_rfl) ?_
  simp only [List.take_succ_cons, List.take_zero, List.drop_succ_cons, List.drop_zero]
  repeat (go_big_quiet_step (fail))
  refine wpQuiet_nil ?_
  intro Y
  obtain ⟨w1, hw1⟩ : ∃ w1, w1 = Y.val := ⟨_, rfl⟩
  have hb1 : Below W0.heap.size W0 w1 := by rw [hw1]; exact Y.prop
  rw [← hw1]
  clear hw1 hS hV
  obtain ⟨W2, hW2⟩ : ∃ W2, W2 = w1.alloc (.cells #[.int .i64 (X' : Int)] 3) := ⟨_, rfl⟩
  have K : Hid (∀ W, Below W2.heap.size W2 W → BoxG w.heap.size n (.slice a l.length cap) W ∧ W.cell? ⟨w.heap.size + 1, 0, none⟩ = some (.int .i64 X) ∧ W.cell? ⟨w.heap.size + 1 + 1, 0, none⟩ = some (.int .i64 k) ∧ W.cell? ⟨w.heap.size + 1 + 1 + 1, 0, none⟩ = some (.bool false) ∧ W.frozen? ⟨w.heap.size + 1 + 1 + 1, 0, none⟩ = false ∧ Ints W (.slice a l.length cap) l ∧ Below w.heap.size w W ∧ w.heap.size + 4 ≤ W.heap.size) := fun W hb => by
    have hg : W0.grownBy W none := grown_trans (below_grown hb1) (grown_trans (by rw [hW2]; exact grown_alloc w1 _ none) (below_grown hb))
    obtain ⟨hc, hf⟩ := gcell hg
    have hz := HZ0.out
    have hB : Below w.heap.size w W := BB.out.grown hg BB.out.size (fun k hk => by simp at hk)
    exact ⟨BX.out.keep hg (by simp), by rw [hc _ _ (by omega) (by simp)]; exact HS0.out, by rw [hc _ _ (by omega) (by simp)]; exact HV0.out, by rw [hc _ _ (by omega) (by simp)]; exact HR0.out, by rw [hf _ _ (by omega) (by simp)]; exact HR1.out, HI.out.on hB, hB, by have := hg.size; omega⟩
  have hcB : W2.cell? ⟨w1.heap.size, 0, none⟩ = some (.int .i64 (X' : Int)) := by rw [hW2]; simp [go_sem]
  have hz2 : W2.heap.size = w1.heap.size + 1 := by rw [hW2]; simp
  have hz1 : w.heap.size + 4 ≤ w1.heap.size := by have := hb1.size; have := HZ0.out; omega
  gi_wp2_with fail
  refine ⟨trivial, (callsIn_wide.2 (verticesIn_is X' _)).mono ?_⟩
  rintro e w6 ⟨rfl, hw6⟩
  obtain rfl : w6 = W2 := by rw [hW2]; exact hw6.symm
  obtain ⟨z, hz⟩ : ∃ z, z = w1.heap.size := ⟨_, rfl⟩
  rw [← hz] at hcB hz2 hz1 ⊢
  clear hw6 hW2 hb1 hz
  gi_wp2_with fail
  refine wpIn_rangeFunc_ownF (w0 := w6) rfl (by omega) (gf := 81) (lb := #[.pointer (some ⟨z, 0, none⟩)]) rfl trivial (enters_of Try.func81 (by kernel_rfl) rfl)
    (vin_stops Fence.wide 4 trivial rfl (by omega) z w6.heap.size X' w6 (by omega) (by omega) hcB) belowK_t (belowK_b (Nat.le_refl _)) (Below.refl _ _) (fun _ => rfl)
    (TwnI l X k X' w6) (TwnX l X k X' (w.heap.size + 1 + 1 + 1) w)
    (fun s A B row hs hg hr => ⟨hs.1, ownFrom_below (β := List (Mem (X' : Int))) (Nat.le_refl _) (Nat.le_refl _) s A B row hs.2 hg hr⟩)
    (fun c s A B row hs hg hr => ⟨hs.1, hs.2.1, cell_kept hs.2.2.1 hg (fun r e => (hr r e).2), ownFrom_below (β := List (Mem (X' : Int))) (Nat.le_refl _) (by omega) s A B row hs.2.2.2 hg hr⟩)
    ⟨fun y hy => (by cases hy), Below.refl _ _⟩
    (fun y => { tmps := #[.agg #[.int .i64 n, .slice a l.length cap], .int .i64 (X : Int), .int .i64 (k : Int), .pointer (some ⟨w.heap.size, 0, none⟩), .pointer (some ⟨w.heap.size + 1, 0, none⟩), .pointer (some ⟨w.heap.size + 1 + 1, 0, none⟩), .pointer (some ⟨w.heap.size + 1 + 1 + 1, 0, none⟩), .int .i64 (y.1 : Int), .int .i64 (X : Int), .int .i64 (k : Int), .int .i64 P2, .int .i64 (X' : Int), .func (.func 81) #[] #[.pointer (some ⟨z, 0, none⟩)], .int .i64 (y.1 : Int), undef, undef, undef, undef, undef, undef, undef, undef, undef, undef, undef, undef, undef, undef, undef, undef, undef, undef, undef, undef], defers := [] }) ?assign ?body ?done ?stop
  case assign =>
    intro li y W K hK
    gi_wp2
    exact hK
  case body =>
    rintro li pre y W ⟨hpre, hB⟩ hlen
    obtain ⟨⟨c0, c1, cz⟩, cs, cv, cr, cf, dI, dB, dZ⟩ := K.out W hB
    obtain ⟨j, hj7, hjb⟩ := y
    have hjl : j < l.length := bit_lt HX'l.out ((bitAt_nat X' j).1 hjb)
    obtain ⟨b', off', cap', hv, _, hmx, hb', hcell⟩ := dI.pos (by omega)
    simp only [Value.slice.injEq] at hv
    obtain ⟨rfl, -, rfl⟩ := hv
    obtain ⟨z1, hz1'⟩ : ∃ z1, z1 = nth l k := ⟨_, rfl⟩
    obtain ⟨z2, hz2'⟩ : ∃ z2, z2 = nth l j := ⟨_, rfl⟩
    have d1 := hcell k hkl
    have d2 := hcell j hjl
    rw [← hz1'] at d1
    rw [← hz2'] at d2
    obtain ⟨P3, eP3, hP31, hP32⟩ : ∃ P, (2 : Int) ^ j = P ∧ 1 ≤ P ∧ P ≤ 128 := ⟨_, rfl, (shl_one' j (by omega)).2.2.2.2, (shl_one' j (by omega)).2.2.2.1⟩
    have g3 : IntKind.i64.wrap (1 * P3) = P3 := IntWalk.i64_in _ (by omega) |>.trans (by omega)
    have g4 : IntKind.i64.wrap P3 = P3 := IntWalk.i64_in _ (by omega)
    obtain ⟨t1, ht1⟩ : ∃ t1, bits .xor .i64 z1 z2 = t1 := ⟨_, rfl⟩
    obtain ⟨t2, ht2⟩ : ∃ t2, bits .and .i64 t1 (X : Int) = t2 := ⟨_, rfl⟩
    obtain ⟨t3, ht3⟩ : ∃ t3, bits .or .i64 P2 P3 = t3 := ⟨_, rfl⟩
    obtain ⟨t4, ht4⟩ : ∃ t4, bits .andNot .i64 t2 t3 = t4 := ⟨_, rfl⟩
    have HTP := Lib.hid (show twinP l X k j = (t4 == 0) by unfold twinP; rw [← hz1', ← hz2', HP2.out, eP3, ht1, ht2, ht3, ht4])
    obtain ⟨B, hBB⟩ : ∃ B, B = (t4 == 0) := ⟨_, rfl⟩
    have q1 : (t4 == 0) = B := hBB.symm
    rw [← hBB] at HTP
    have HPRE := Lib.hid hpre
    have HBW := Lib.hid hB
    have HDB := Lib.hid dB
    unfold maxLen at hmx
    clear hcell hz1' hz2' hpre hB dB dI hBB
    cases B with
    | false =>
      gi_wp2
      refine wpIn_region_still_tail 19 hmix (by kernel_rfl) (by kernel_rfl) ?_
      simp only [List.take_succ_cons, List.take_zero, List.drop_succ_cons, List.drop_zero]
      repeat still_step
      refine wpStill_nil ?_
      gi_wp2
      refine ⟨KeepsOthers.drew _, (Below.refl _ _).drew, ⟨fun y hy => ?_, HBW.out.drew⟩⟩
      rcases List.mem_append.1 hy with hy | hy
      · exact HPRE.out y hy
      · simp at hy
        subst hy
        exact HTP.out
    | true =>
      gi_wp2
      refine wpIn_region_still_tail 19 hmix (by kernel_rfl) (by kernel_rfl) ?_
      simp only [List.take_succ_cons, List.take_zero, List.drop_succ_cons, List.drop_zero]
      repeat still_step
      refine wpStill_nil ?_
      gi_wp2
      refine ⟨(KeepsOthers.drew _).trans (KeepsOthers.setCell _ _ _), ⟨rfl, ⟨⟨j, hj7, hjb⟩, by simp, HTP.out⟩, ?_, HDB.out.drew.setCell (by simp <;> omega) _⟩⟩
      exact World.cell?_setCell_same' _ _ _ (by show (W.cell? _).isSome = true; rw [cr]; rfl)
  case done =>
    rintro D ys W hD hys ⟨hall, hB⟩ hK
    obtain ⟨⟨c0, c1, cz⟩, cs, cv, cr, cf, dI, dB, dZ⟩ := K.out W hB
    have HN := Lib.hid (show twinB l X k = false by
      rw [HTB.out, List.any_eq_false]
      intro j hj
      rw [← memU_nat, ← hys] at hj
      obtain ⟨y, hy, rfl⟩ := List.mem_map.1 hj
      rw [hall y hy]
      decide)
    have HDB := Lib.hid dB
    clear hall hB dB dI hys
    gi_wp2
    have hK' := (KeepsOthers.setCell W ⟨w.heap.size + 1 + 1 + 1, 0, none⟩ (.bool false)).same D _ hK rfl
    refine ⟨by simp, .inl ⟨_, _, rfl, run_takeDeferred hK', ?_⟩⟩
    have hc5 := cell_kept (World.cell?_setCell_same' W ⟨w.heap.size + 1 + 1 + 1, 0, none⟩ (.bool false) (by rw [cr]; rfl)) (grownBy_putObj' _ D (.deferred none)) (fun r e => by cases e; exact ⟨_, hK', rfl⟩)
    refine ⟨.bool false, by simp [results, Try.f62, go_sem, hc5], by rw [HN.out], (HDB.out.setCell (p := ⟨w.heap.size + 1 + 1 + 1, 0, none⟩) (by simp <;> omega) _).trans (belowK_b (w := w) (Nat.le_refl _) _ D _ _ (by omega) hK' rfl rfl)⟩
  case stop =>
    rintro D c pre W hD hpre ⟨rfl, ⟨y, hy, hne⟩, hcr, hB⟩ hK
    have HB := Lib.hid hB
    have HN := Lib.hid (show twinB l X k = true by
      rw [HTB.out, List.any_eq_true]
      refine ⟨y.1, ?_, hne⟩
      have hb := (bitAt_nat X' y.1).1 y.2.2
      unfold memN
      simp [hb]
      exact y.2.1)
    clear hB hne
    gi_wp2
    refine ⟨by simp, .inl ⟨_, _, rfl, run_takeDeferred hK, ?_⟩⟩
    have hc5 := cell_kept hcr (grownBy_putObj' _ D (.deferred none)) (fun r e => by cases e; exact ⟨_, hK, rfl⟩)
    refine ⟨.bool true, by simp [results, Try.f62, go_sem, hc5], by rw [HN.out], HB.out.trans (belowK_b (w := w) (Nat.le_refl _) W D _ _ (by omega) hK rfl rfl)⟩

end Go.Proofs.Ytgfndgjabhabjab
