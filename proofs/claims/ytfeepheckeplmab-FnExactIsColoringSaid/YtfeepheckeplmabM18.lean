/- impl.IsColoring. -/
import Derived.Test.YtfeepheckeplmabM17
import Derived.Test.YtfeepheckeplmabT3
import Derived.Test.YtfeepheckeplmabV2
import Derived.Test.YtfeepheckeplmabR
import Derived.Test.YtfeepheckeplmabGl
import Derived.Sort.CutIn
namespace Go.Proofs.Ytfeepheckeplmab
open Go.RowKit Go.Shelf
attribute [local go_sem] Oper.semAt_some

/-- What holds between two rounds. -/
def ColK (w : World) (n : Int) (v vl : Value) (W : World) : Prop := W.cell? ⟨w.heap.size + 1, 0, none⟩ = some vl ∧ BoxG w.heap.size n v W ∧ W.cell? ⟨w.heap.size + 1 + 1, 0, none⟩ = some (.bool false) ∧ W.frozen? ⟨w.heap.size + 1 + 1, 0, none⟩ = false ∧ Below w.heap.size w W ∧ w.heap.size + 3 ≤ W.heap.size

theorem ColK.keep {w : World} {n : Int} {v vl : Value} {W W' : World} (h : ColK w n v vl W) (hg : W.grownBy W' none) : ColK w n v vl W' := by
  obtain ⟨h1, h2, h3, h4, h5, h6⟩ := h
  obtain ⟨hc, hf⟩ := gcell hg
  exact ⟨by rw [hc _ _ (by omega) (by simp)]; exact h1, h2.keep hg (by simp), by rw [hc _ _ (by omega) (by simp)]; exact h3, by rw [hf _ _ (by omega) (by simp)]; exact h4,
    h5.grown hg h5.size (fun k hk => by simp at hk), Nat.le_trans h6 hg.size⟩

def ColJ (lg c : List Int) (v : Nat) : Prop := (0 ≤ nth c v ∧ nth c v ≤ 6) ∧ ∀ w, w < 7 → bitAt (nth lg v) w = 1 → nth c w ≠ nth c v

theorem col_all {n : Int} {lg l : List Int} (hg : IsG n lg) (hl : l.length = lg.length) (h : ∀ v, v < l.length → ColJ lg l v) : ColP n lg l :=
  ⟨hg, hl, fun v hv => ⟨(h v hv).1, fun u hu he e => (h v hv).2 u (by have := hg.2.1; have := hg.2.2.1; omega) ((edB_iff lg v u).1 he) e.symm⟩⟩

theorem col_hit {n : Int} {lg l : List Int} (h : ColP n lg l) {i k : Nat} (hi : i < l.length) (hk7 : k < 7) (hb : bitAt (nth lg i) k = 1) (he : nth l k = nth l i) : False := by
  have hg := h.1
  have hil : i < lg.length := by rw [← h.2.1]; exact hi
  obtain ⟨hr1, hr2⟩ := hg.row_lt i hil
  have hkl : k < lg.length := bit_lt hr1 ((bitAt_nat _ k).1 (by rw [← hr2]; exact hb))
  have hki : k ≠ i := fun e => by
    have := ((hg.2.2.2 i hil).1).2.2
    rw [← e] at this hb
    omega
  rcases Nat.lt_or_ge k i with hlt | hge
  · exact (h.2.2 i hi).2 k hlt ((edB_iff lg i k).2 hb) he.symm
  · exact (h.2.2 k (by rw [h.2.1]; exact hkl)).2 i (by omega) ((edB_iff lg k i).2 (by rw [hg.sym hkl hil]; exact hb)) he

set_option maxHeartbeats 4000000 in
set_option maxRecDepth 100000 in
theorem implCol (n : Int) (v vl : Value) (lg l : List Int) (w : World) (h : Ints w v lg) (hl : Ints w vl l) (hlen : l.length ≤ 1048576) :
    Calls Try.prog 26 #[.agg #[.int .i64 n, v], vl] w (SaysB (ColP n lg l) w) := by
  obtain ⟨a, cap, rfl, -, -⟩ := h.form
  obtain ⟨al, capl, rfl, hcl, hml⟩ := hl.form
  have HI := Lib.hid h
  have HL := Lib.hid hl
  unfold maxLen at hml
  clear h hl
  refine (callsIn_wide (n := 4)).1 ?_
  refine callsIn_of_wp_marks Try.func26 rfl trivial ?_ rfl
  simp only [Try.ntmps26, List.size_toArray, List.length_cons, List.length_nil, Nat.reduceAdd, Nat.reduceSub, Array.replicate_succ, Array.replicate_zero, List.push_toArray, List.append_toArray, List.nil_append, List.cons_append]
  obtain ⟨W0, hW0⟩ : ∃ W0, W0 = ((w.alloc (.cells #[.int .i64 n, .slice a lg.length cap] 27)).alloc (.cells #[.slice al l.length capl] 22)).alloc (.cells #[.bool false] 4) := ⟨_, rfl⟩
  have BB : Hid (Below w.heap.size w W0) := by rw [hW0]; exact ((((Below.refl _ w).alloc (Nat.le_refl _) _).alloc (by simp) _).alloc (by simp <;> omega) _)
  have BX : Hid (BoxG w.heap.size n (.slice a lg.length cap) W0) := by
    rw [hW0]
    exact ((BoxG.new w 27 n (.slice a lg.length cap) ⟨_, _, _, rfl⟩).keep (grown_alloc _ _ none) (by simp)).keep (grown_alloc _ _ none) (by simp)
  have S0 : W0.cell? ⟨w.heap.size + 1, 0, none⟩ = some (.slice al l.length capl) := by rw [hW0]; simp [go_sem]
  have R0 : W0.cell? ⟨w.heap.size + 1 + 1, 0, none⟩ = some (.bool false) := by rw [hW0]; simp [go_sem]
  have R1 : W0.frozen? ⟨w.heap.size + 1 + 1, 0, none⟩ = false := by rw [hW0]; simp [go_sem]
  have Z0 : W0.heap.size = w.heap.size + 3 := by rw [hW0]; simp
  gi_wp2_with fail
  rw [← hW0]
  refine ⟨trivial, (callsIn_wide.2 (implIsG_any n _ lg _ (HI.out.on BB.out))).mono ?_⟩
  rintro e w1 ⟨r, rfl, hr, hb⟩
  clear hW0
  have BX1 := Lib.hid (BX.out.keep (below_grown hb) (by simp))
  have BB1 := Lib.hid (BB.out.trans (hb.mono BB.out.size))
  have S1 : w1.cell? ⟨w.heap.size + 1, 0, none⟩ = some (.slice al l.length capl) := (hb.cell (p := ⟨w.heap.size + 1, 0, none⟩) (by show w.heap.size + 1 < W0.heap.size; omega)).trans S0
  have T1 : w1.cell? ⟨w.heap.size + 1 + 1, 0, none⟩ = some (.bool false) := (hb.cell (p := ⟨w.heap.size + 1 + 1, 0, none⟩) (by show w.heap.size + 1 + 1 < W0.heap.size; omega)).trans R0
  have U1 : w1.frozen? ⟨w.heap.size + 1 + 1, 0, none⟩ = false := (hb.frozen (p := ⟨w.heap.size + 1 + 1, 0, none⟩) (by show w.heap.size + 1 + 1 < W0.heap.size; omega)).trans R1
  have Z1 : w.heap.size + 3 ≤ w1.heap.size := by have := hb.size; omega
  have HR := Lib.hid hr
  clear hb S0 R0 R1 Z0 BX BB hr
  obtain ⟨c0, c1, cz⟩ := BX1.out
  cases r with
  | false =>
    gi_wp2
    refine ⟨.bool false, by simp [results, Try.f26, go_sem, T1], SaysB.no (fun h => absurd (HR.out.2 h.1) (by decide)) ?_⟩
    exact BB1.out.setCell (by simp <;> omega) _
  | true =>
    have HG := Lib.hid (HR.out.1 rfl)
    have hn7 := HG.out.2.1
    have hle : (lg.length : Int) ≤ n := by have := HG.out.2.2.1; omega
    have hge : n ≤ (lg.length : Int) := by have := HG.out.2.2.1; omega
    by_cases hll : l.length = lg.length
    · have q0 : ((l.length : Int) != n) = false := by rw [bne_eq_false_iff_eq]; omega
      have hl1 : l.length ≤ lg.length := by omega
      have hl2 : lg.length ≤ l.length := by omega
      have HLL := Lib.hid hll
      clear hll
      gi_wp2
      have H0 : Hid (ColK w n (.slice a lg.length cap) (.slice al l.length capl) w1) := ⟨S1, BX1.out, T1, U1, BB1.out, Z1⟩
      clear c0 c1 cz S1 T1 U1 Z1 BX1 BB1 HR q0
      refine wpIn_loop (fun a' w' => ∃ (u5 u6 u7 u20 u21 u22 u23 u24 u25 u26 u27 u28 u29 u30 u31 u32 u33 u34 u35 u36 u37 u38 u39 u40 u41 u42 u43 u44 : Value) (ds : List Deferred), (∃ (i : Nat) (Ds : List Nat), i ≤ l.length ∧ u20 = .int .i64 i ∧ ds = markL Ds ∧ MarksOk (w.heap.size + 3) Ds w' ∧ Hid (∀ v, v < i → ColJ lg l v) ∧ ColK w n (.slice a lg.length cap) (.slice al l.length capl) w') ∧ a' = { tmps := #[.agg #[.int .i64 n, .slice a lg.length cap], .slice al l.length capl, .pointer (some ⟨w.heap.size, 0, none⟩), .pointer (some ⟨w.heap.size + 1, 0, none⟩), .pointer (some ⟨w.heap.size + 1 + 1, 0, none⟩), u5, u6, u7, .agg #[.int .i64 n, .slice a lg.length cap], .bool true, .bool false, .bool false, .slice al l.length capl, .int .i64 l.length, .pointer (some ⟨w.heap.size, 0, none⟩), .int .i64 n, .bool false, .bool false, .slice al l.length capl, .int .i64 l.length, u20, u21, u22, u23, u24, u25, u26, u27, u28, u29, u30, u31, u32, u33, u34, u35, u36, u37, u38, u39, u40, u41, u42, u43, u44], defers := ds }) (fun a' _ => l.length - (intOf (a'.tmps.getD 20 undef)).toNat) ?atStart ?round
      case atStart =>
        (repeat apply Exists.intro)
        refine ⟨?_, rfl⟩
        exact ⟨0, [], by omega, rfl, rfl, MarksOk.nil _ _, fun v hv => absurd hv (by omega), H0.out⟩
      case round =>
        clear H0
        rintro a' wr ⟨u5, u6, u7, u20, u21, u22, u23, u24, u25, u26, u27, u28, u29, u30, u31, u32, u33, u34, u35, u36, u37, u38, u39, u40, u41, u42, u43, u44, ds, ⟨i, Ds, hi, rfl, rfl, hmk, HJ, hK0⟩, rfl⟩
        have HMK := Lib.hid hmk
        have HK0 := Lib.hid hK0
        obtain ⟨k1, ⟨k2, k3, k4⟩, k5, k6, k7, k8⟩ := hK0
        have HB0 := Lib.hid k7
        clear hmk k7
        by_cases hlt : i < l.length
        · obtain ⟨b2, off2, capl', hv, hc2, hmx2, hbk2, hcell2⟩ := HL.out.pos (by omega)
          simp only [Value.slice.injEq] at hv
          obtain ⟨rfl, -, rfl⟩ := hv
          have e1 := (HB0.out.cell (p := ⟨b2, off2 + i, none⟩) hbk2).trans (hcell2 i hlt)
          have HC2 := Lib.hid hcell2
          obtain ⟨x, hx⟩ : ∃ x, x = nth l i := ⟨_, rfl⟩
          rw [← hx] at e1
          have HXX := Lib.hid hx
          clear hcell2 hx
          obtain ⟨W1, hW1⟩ : ∃ W1, W1 = wr.alloc (.cells #[.int .i64 x] 3) := ⟨_, rfl⟩
          have hg1 : wr.grownBy W1 none := by rw [hW1]; exact grown_alloc wr _ none
          have HK1 := Lib.hid (HK0.out.keep hg1)
          have HMK1 := Lib.hid (HMK.out.grown hg1)
          have HCX := Lib.hid (show W1.cell? ⟨wr.heap.size, 0, none⟩ = some (.int .i64 x) by rw [hW1]; simp [go_sem])
          have HZ1 := Lib.hid (show W1.heap.size = wr.heap.size + 1 by rw [hW1]; simp)
          gi_upto_region 6 with fail
          rw [← hW1]
          clear hW1 k1 k2 k3 k4 k5 k6 k8 hg1 e1
          obtain ⟨k1, ⟨k2, k3, k4⟩, k5, k6, -, k8⟩ := HK1.out
          have kx := HCX.out
          by_cases hx0 : x < 0
          · have HN : Hid (¬ ColP n lg l) := fun h => by
              have := (h.2.2 i hlt).1.1
              rw [← HXX.out] at this
              omega
            gi_wp2
            refine leave_with (B := w.heap.size + 3) (HMK1.out.setCell (by omega) _) ?_
            have hc5 := shut_cell Ds _ (w.heap.size + 1 + 1) 0 (.bool false) (HMK1.out.setCell (by omega) _) (World.cell?_setCell_same' W1 ⟨w.heap.size + 1 + 1, 0, none⟩ (.bool false) (by rw [k5]; rfl))
            exact ⟨.bool false, by simp [results, Try.f26, go_sem, hc5], SaysB.no HN.out (shut_below (B := w.heap.size + 3) (by omega) Ds _ (HK1.out.2.2.2.2.1.setCell (by simp <;> omega) _) (HMK1.out.setCell (by omega) _))⟩
          · by_cases hx7 : 7 ≤ x
            · have HN : Hid (¬ ColP n lg l) := fun h => by
                have := (h.2.2 i hlt).1.2
                rw [← HXX.out] at this
                omega
              gi_wp2
              refine leave_with (B := w.heap.size + 3) (HMK1.out.setCell (by omega) _) ?_
              have hc5 := shut_cell Ds _ (w.heap.size + 1 + 1) 0 (.bool false) (HMK1.out.setCell (by omega) _) (World.cell?_setCell_same' W1 ⟨w.heap.size + 1 + 1, 0, none⟩ (.bool false) (by rw [k5]; rfl))
              exact ⟨.bool false, by simp [results, Try.f26, go_sem, hc5], SaysB.no HN.out (shut_below (B := w.heap.size + 3) (by omega) Ds _ (HK1.out.2.2.2.2.1.setCell (by simp <;> omega) _) (HMK1.out.setCell (by omega) _))⟩
            · skip
              have hxi : 0 ≤ x ∧ x ≤ 6 := by omega
              obtain ⟨bg, offg, capg, hv, _, hmg, hbg, hcg⟩ := HI.out.pos (by omega)
              simp only [Value.slice.injEq] at hv
              obtain ⟨rfl, -, rfl⟩ := hv
              obtain ⟨R, hR⟩ : ∃ R, R = rowN lg i := ⟨_, rfl⟩
              obtain ⟨hr1, hr2⟩ := HG.out.row_lt i (by omega)
              rw [← hR] at hr1 hr2
              have e2 := (HK1.out.2.2.2.2.1.cell (p := ⟨bg, offg + i, none⟩) hbg).trans (hcg i (by omega))
              rw [hr2] at e2
              have HR1 := Lib.hid hr1
              have HR2 := Lib.hid hr2
              unfold maxLen at hmg hmx2
              clear hcg hr1 hr2 hR
              obtain ⟨W2, hW2⟩ : ∃ W2, W2 = W1.alloc (.cells #[.int .i64 R] 3) := ⟨_, rfl⟩
              have HGB : Hid (∀ W, Below W2.heap.size W2 W → W1.grownBy W none) := fun W hb => grown_trans (by rw [hW2]; exact grown_alloc W1 _ none) (below_grown hb)
              have hcB := Lib.hid (show W2.cell? ⟨W1.heap.size, 0, none⟩ = some (.int .i64 R) by rw [hW2]; simp [go_sem])
              have hz2 := Lib.hid (show W2.heap.size = W1.heap.size + 1 by rw [hW2]; simp)
              gi_wp2_with fail
              refine ⟨trivial, (callsIn_wide.2 (verticesIn_is R _)).mono ?_⟩
              rintro e w2 ⟨rfl, hw2⟩
              obtain rfl : w2 = W2 := by rw [hW2]; exact hw2.symm
              clear hw2 hW2 k1 k2 k3 k5 k6 kx e2
              have hz3 : w2.heap.size = W1.heap.size + 1 := hz2.out
              have HDL : Hid (∀ D, D ∈ Ds → D < w2.heap.size) := fun D hD => by have := HMK1.out.lt hD; omega
              gi_wp2_with fail
              refine wpIn_rangeFunc_ownF (w0 := w2) rfl (by omega) (gf := 70) (lb := #[.pointer (some ⟨W1.heap.size, 0, none⟩)]) rfl trivial (enters_of Try.func70 (by kernel_rfl) rfl)
                (vin_stops Fence.wide 3 trivial rfl (by omega) W1.heap.size w2.heap.size R w2 (by omega) (by omega) hcB.out) belowK_t (belowK_b (Nat.le_refl _)) (Below.refl _ _) (fun _ => rfl)
                (fun (pre : List (Mem (R : Int))) W => (∀ y ∈ pre, nth l y.1 ≠ x) ∧ Below w2.heap.size w2 W) (fun c (pre : List (Mem (R : Int))) W => c = .ret ∧ (∃ y ∈ pre, nth l y.1 = x) ∧ W.cell? ⟨w.heap.size + 1 + 1, 0, none⟩ = some (.bool false) ∧ Below w.heap.size w W ∧ MarksOk (w.heap.size + 3) Ds W)
                (fun s A B row hs hg hr => ⟨hs.1, ownFrom_below (β := List (Mem (R : Int))) (Nat.le_refl _) (Nat.le_refl _) s A B row hs.2 hg hr⟩)
                (fun c s A B row hs hg hr => ⟨hs.1, hs.2.1, cell_kept hs.2.2.1 hg (fun r e => (hr r e).2), ownFrom_below (β := List (Mem (R : Int))) (Nat.le_refl _) (by omega) s A B row hs.2.2.2.1 hg hr,
                  hs.2.2.2.2.keep fun D hD => hg.block D (hs.2.2.2.2.lt hD) (fun e => by have := (hr D e.symm).1; have := HDL.out D hD; omega)⟩)
                ⟨fun y hy => (by cases hy), Below.refl _ _⟩
                (fun y => { tmps := #[.agg #[.int .i64 n, .slice (some ⟨bg, offg, none⟩) lg.length cap], .slice (some ⟨b2, off2, none⟩) l.length capl, .pointer (some ⟨w.heap.size, 0, none⟩), .pointer (some ⟨w.heap.size + 1, 0, none⟩), .pointer (some ⟨w.heap.size + 1 + 1, 0, none⟩), .int .i64 i, .pointer (some ⟨wr.heap.size, 0, none⟩), .int .i64 (y.1 : Int), .agg #[.int .i64 n, .slice (some ⟨bg, offg, none⟩) lg.length cap], .bool true, .bool false, .bool false, .slice (some ⟨b2, off2, none⟩) l.length capl, .int .i64 l.length, .pointer (some ⟨w.heap.size, 0, none⟩), .int .i64 n, .bool false, .bool false, .slice (some ⟨b2, off2, none⟩) l.length capl, .int .i64 l.length, .int .i64 i, .bool true, .int .i64 i, .pointer (some ⟨b2, off2 + i, none⟩), .int .i64 x, .int .i64 x, .bool false, .bool false, .int .i64 x, .bool false, .bool false, .pointer (some ⟨w.heap.size, 1, none⟩), .slice (some ⟨bg, offg, none⟩) lg.length cap, .int .i64 i, .pointer (some ⟨bg, offg + i, none⟩), .int .i64 R, .func (.func 70) #[] #[.pointer (some ⟨W1.heap.size, 0, none⟩)], .int .i64 (y.1 : Int), u38, u39, u40, u41, u42, u43, u44], defers := [] }) ?assign ?body ?done ?stop
              case assign =>
                intro li y W K hK
                gi_wp2
                exact hK
              case body =>
                rintro li pre y W ⟨hpre, hB⟩ hlen
                have hgW := HGB.out W hB
                obtain ⟨d1, d2, d3, d4, dB, dZ⟩ := HK1.out.keep hgW
                have d5 : W.cell? ⟨wr.heap.size, 0, none⟩ = some (.int .i64 x) := by rw [(gcell hgW).1 _ _ (by have := HZ1.out; omega) (by simp)]; exact HCX.out
                have HM1 := Lib.hid (HMK1.out.grown hgW)
                obtain ⟨k, hk7, hkb⟩ := y
                have hkl : k < l.length := Nat.lt_of_lt_of_le (bit_lt HR1.out ((bitAt_nat R k).1 hkb)) hl2
                obtain ⟨z, hz⟩ : ∃ z, z = nth l k := ⟨_, rfl⟩
                have c1 := (dB.cell (p := ⟨b2, off2 + k, none⟩) hbk2).trans (HC2.out k hkl)
                rw [← hz] at c1
                have HZZ := Lib.hid hz
                have HPRE := Lib.hid hpre
                have HBW := Lib.hid hB
                have HDB := Lib.hid dB
                have D3 := Lib.hid d3
                have hmix : Try.prog.follows .mixedOrders = true := by kernel_rfl
                clear hz hpre hB dB hgW d2
                by_cases h0 : z = x
                · have q1 : (z == x) = true := by rw [beq_iff_eq]; exact h0
                  have H0 := Lib.hid h0
                  clear h0
                  gi_wp2
                  refine wpIn_region_still_tail 5 hmix (by kernel_rfl) (by kernel_rfl) ?_
                  simp only [List.take_succ_cons, List.take_zero, List.drop_succ_cons, List.drop_zero]
                  repeat still_step
                  refine wpStill_nil ?_
                  gi_wp2
                  refine ⟨(KeepsOthers.drew _).trans (KeepsOthers.setCell _ _ _), ⟨rfl, ⟨⟨k, hk7, hkb⟩, by simp, ?_⟩, ?_, HDB.out.drew.setCell (by simp <;> omega) _, HM1.out.drew.setCell (by omega) _⟩⟩
                  · show nth l k = x
                    rw [← HZZ.out]; exact H0.out
                  · exact World.cell?_setCell_same' _ _ _ (by show (W.cell? _).isSome = true; rw [D3.out]; rfl)
                · have q1 : (z == x) = false := by rw [beq_eq_false_iff_ne]; exact h0
                  have H0 := Lib.hid h0
                  clear h0
                  gi_wp2
                  refine wpIn_region_still_tail 5 hmix (by kernel_rfl) (by kernel_rfl) ?_
                  simp only [List.take_succ_cons, List.take_zero, List.drop_succ_cons, List.drop_zero]
                  repeat still_step
                  refine wpStill_nil ?_
                  gi_wp2
                  refine ⟨KeepsOthers.drew _, (Below.refl _ _).drew, ⟨fun y hy => ?_, HBW.out.drew⟩⟩
                  rcases List.mem_append.1 hy with hy | hy
                  · exact HPRE.out y hy
                  · simp at hy
                    subst hy
                    show nth l k ≠ x
                    rw [← HZZ.out]; exact H0.out
              case done =>
                rintro D ys W hD hys ⟨hall, hB⟩ hK
                have hgW := HGB.out W hB
                have HKW := Lib.hid (HK1.out.keep hgW)
                have HMW : Hid (MarksOk (w.heap.size + 3) (D :: Ds) W) := (HMK1.out.grown hgW).cons (by omega) hK fun hDD => by have := HDL.out D hDD; omega
                have HT : Hid (∀ v, v < i + 1 → ColJ lg l v) := fun v hv => by
                  rcases Nat.lt_or_ge v i with h | h
                  · exact HJ.out v h
                  · obtain rfl : v = i := by omega
                    refine ⟨by rw [← HXX.out]; exact hxi, fun k hk7 hkb => ?_⟩
                    rw [HR2.out] at hkb
                    rw [← HXX.out]
                    have hm : k ∈ memU (R : Int) 7 := by unfold memU; simp [hk7, hkb]
                    rw [← hys] at hm
                    obtain ⟨y, hy, rfl⟩ := List.mem_map.1 hm
                    exact hall y hy
                clear hall hB hK hgW hys
                gi_wp2
                refine ⟨?_, ?measure⟩
                (repeat apply Exists.intro)
                refine ⟨?rel, rfl⟩
                case rel => exact ⟨i + 1, D :: Ds, by omega, by go_num, rfl, HMW.out, HT.out, HKW.out⟩
                case measure => simp [intOf]; omega
              case stop =>
                rintro D c pre W hD hpre ⟨rfl, ⟨y, hy, hne⟩, hcr, hB, hm⟩ hK
                have HMW : Hid (MarksOk (w.heap.size + 3) (D :: Ds) W) := hm.cons (by omega) hK fun hDD => by have := HDL.out D hDD; omega
                have hc5 := shut_cell (D :: Ds) _ (w.heap.size + 1 + 1) 0 (.bool false) HMW.out hcr
                have HBS := Lib.hid (shut_below (B := w.heap.size + 3) (by omega) (D :: Ds) _ hB HMW.out)
                have HN : Hid (¬ ColP n lg l) := fun h => col_hit h hlt y.2.1 (by rw [HR2.out]; exact y.2.2) (hne.trans HXX.out)
                clear hB hm hK hcr hne
                gi_wp2
                refine leave_with (Ds := D :: Ds) HMW.out ?_
                exact ⟨.bool false, by simp [results, Try.f26, go_sem, hc5], SaysB.no HN.out HBS.out⟩
        · obtain rfl : i = l.length := by omega
          have hc5 := shut_cell Ds _ (w.heap.size + 1 + 1) 0 (.bool true) (HMK.out.setCell (by omega) _) (World.cell?_setCell_same' wr ⟨w.heap.size + 1 + 1, 0, none⟩ (.bool true) (by rw [k5]; rfl))
          have HY : Hid (ColP n lg l) := col_all HG.out HLL.out HJ.out
          gi_wp2
          refine leave_with (B := w.heap.size + 3) (HMK.out.setCell (by omega) _) ?_
          exact ⟨.bool true, by simp [results, Try.f26, go_sem, hc5], SaysB.yes HY.out (shut_below (B := w.heap.size + 3) (by omega) Ds _ (HK0.out.2.2.2.2.1.setCell (by simp <;> omega) _) (HMK.out.setCell (by omega) _))⟩
    · have q0 : ((l.length : Int) != n) = true := by rw [bne_iff_ne]; omega
      have HN : Hid (¬ ColP n lg l) := fun h => hll h.2.1
      clear hll
      gi_wp2
      refine ⟨.bool false, by simp [results, Try.f26, go_sem, T1], SaysB.no HN.out ?_⟩
      exact BB1.out.setCell (by simp <;> omega) _

end Go.Proofs.Ytfeepheckeplmab
