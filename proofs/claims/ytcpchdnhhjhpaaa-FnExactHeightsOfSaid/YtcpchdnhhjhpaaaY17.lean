/- IsTransitive. -/
import Derived.Test.YtcpchdnhhjhpaaaY13
import Derived.Test.YtcpchdnhhjhpaaaT3
import Derived.Test.YtcpchdnhhjhpaaaV2
import Derived.Test.YtcpchdnhhjhpaaaR
import Derived.Test.YtcpchdnhhjhpaaaM2
import Derived.Sort.CutIn
namespace Go.Proofs.Ytcpchdnhhjhpaaa
set_option linter.unusedVariables false
set_option linter.unusedSimpArgs false
open Go.RowKit Go.Shelf
attribute [local go_sem] Oper.semAt_some

/-- An orientation whose every two arcs in a row have their third. -/
def TrP (n : Int) (l T : List Int) : Prop := OriP n l T ∧ ∀ v, v < l.length → ∀ j, j < l.length → obit T v j = true → bits .and .i64 (nth T j) (nth T v) = nth T j

instance (n : Int) (l T : List Int) : Decidable (TrP n l T) := by unfold TrP; exact inferInstance

def TrJ (T : List Int) (v : Nat) : Prop := ∀ j, j < 7 → bitAt (nth T v) j = 1 → bits .andNot .i64 (nth T j) (nth T v) = 0

theorem ori_row {n : Int} {l T : List Int} (h : OriP n l T) (v : Nat) (hv : v < l.length) : ∃ R : Nat, nth T v = (R : Int) ∧ R < 2 ^ l.length ∧ R < 128 := by
  obtain ⟨p0, p1⟩ := h.2.2.1 v hv
  obtain ⟨R, hR⟩ := Int.eq_ofNat_of_zero_le p0
  have h7 : l.length ≤ 7 := by have := h.1.2.1; have := h.1.2.2.1; omega
  have h128 : 2 ^ l.length ≤ 128 := Nat.pow_le_pow_right (n := 2) (by decide) h7
  have hlt : R < 2 ^ l.length := by rw [hR] at p1; exact_mod_cast p1
  exact ⟨R, hR, hlt, by omega⟩

theorem tr_same (a b : Nat) (ha : a < 128) (hb : b < 128) : bits .andNot .i64 (a : Int) (b : Int) = 0 ↔ bits .and .i64 (a : Int) (b : Int) = (a : Int) := by
  rw [(bits_nat a b ha hb).1, andNot_bits ⟨a, ha⟩ ⟨b, hb⟩]
  constructor
  · intro h
    have h' : a &&& b = a := h
    rw [h']
  · intro h
    show a &&& b = a
    exact_mod_cast h

theorem tr_bit {n : Int} {l T : List Int} (h : OriP n l T) {v j : Nat} (hv : v < l.length) (hb : bitAt (nth T v) j = 1) : j < l.length := by
  obtain ⟨R, hR, h1, -⟩ := ori_row h v hv
  rw [hR] at hb
  exact bit_lt h1 ((bitAt_nat R j).1 hb)

theorem tr_all {n : Int} {l T : List Int} (h : OriP n l T) (hj : ∀ v, v < T.length → TrJ T v) : TrP n l T := by
  refine ⟨h, fun v hv j hjl ho => ?_⟩
  have h7 : l.length ≤ 7 := by have := h.1.2.1; have := h.1.2.2.1; omega
  have h1 := hj v (by rw [h.2.1]; exact hv) j (by omega) (by unfold obit at ho; exact decide_eq_true_iff.1 ho)
  obtain ⟨R, hR, -, hR7⟩ := ori_row h v hv
  obtain ⟨S, hS, -, hS7⟩ := ori_row h j hjl
  rw [hR, hS] at h1 ⊢
  exact (tr_same S R hS7 hR7).1 h1

theorem tr_hit {n : Int} {l T : List Int} (h : TrP n l T) {i k : Nat} (hi : i < T.length) (hb : bitAt (nth T i) k = 1) (he : bits .andNot .i64 (nth T k) (nth T i) ≠ 0) : False := by
  have hil : i < l.length := by rw [← h.1.2.1]; exact hi
  have hkl := tr_bit h.1 hil hb
  have h1 := h.2 i hil k hkl (by unfold obit; exact decide_eq_true hb)
  obtain ⟨R, hR, -, hR7⟩ := ori_row h.1 i hil
  obtain ⟨S, hS, -, hS7⟩ := ori_row h.1 k hkl
  rw [hR, hS] at h1 he
  exact he ((tr_same S R hS7 hR7).2 h1)

/-- What holds between two rounds. -/
def TrK (w : World) (vl : Value) (W : World) : Prop := W.cell? ⟨w.heap.size + 1, 0, none⟩ = some vl ∧ W.cell? ⟨w.heap.size + 1 + 1, 0, none⟩ = some (.bool false) ∧ W.frozen? ⟨w.heap.size + 1 + 1, 0, none⟩ = false ∧ Below w.heap.size w W ∧ w.heap.size + 3 ≤ W.heap.size

theorem TrK.keep {w : World} {vl : Value} {W W' : World} (h : TrK w vl W) (hg : W.grownBy W' none) : TrK w vl W' := by
  obtain ⟨h1, h3, h4, h5, h6⟩ := h
  obtain ⟨hc, hf⟩ := gcell hg
  exact ⟨by rw [hc _ _ (by omega) (by simp)]; exact h1, by rw [hc _ _ (by omega) (by simp)]; exact h3, by rw [hf _ _ (by omega) (by simp)]; exact h4,
    h5.grown hg h5.size (fun k hk => by simp at hk), Nat.le_trans h6 hg.size⟩

set_option maxHeartbeats 4000000 in
set_option maxRecDepth 100000 in
theorem implTr (n : Int) (v u : Value) (lg l : List Int) (w : World) (h : Ints w v lg) (hl : Ints w u l) (hlen : l.length ≤ 1048576) :
    Calls Try.prog 119 #[.agg #[.int .i64 n, v], .agg #[u]] w (SaysB (TrP n lg l) w) := by
  obtain ⟨a, cap, rfl, -, -⟩ := h.form
  obtain ⟨al, capl, rfl, hcl, hml⟩ := hl.form
  have HI := Lib.hid h
  have HL := Lib.hid hl
  unfold maxLen at hml
  clear h hl
  refine (callsIn_wide (n := 4)).1 ?_
  refine callsIn_of_wp_marks Try.func119 rfl trivial ?_ rfl
  simp only [Try.ntmps119, List.size_toArray, List.length_cons, List.length_nil, Nat.reduceAdd, Nat.reduceSub, Array.replicate_succ, Array.replicate_zero, List.push_toArray, List.append_toArray, List.nil_append, List.cons_append]
  obtain ⟨W0, hW0⟩ : ∃ W0, W0 = ((w.alloc (.cells #[.int .i64 n, .slice a lg.length cap] 28)).alloc (.cells #[.slice al l.length capl] 79)).alloc (.cells #[.bool false] 4) := ⟨_, rfl⟩
  have BB : Hid (Below w.heap.size w W0) := by rw [hW0]; exact ((((Below.refl _ w).alloc (Nat.le_refl _) _).alloc (by simp) _).alloc (by simp <;> omega) _)
  have S0 : W0.cell? ⟨w.heap.size + 1, 0, none⟩ = some (.slice al l.length capl) := by rw [hW0]; simp [go_sem]
  have R0 : W0.cell? ⟨w.heap.size + 1 + 1, 0, none⟩ = some (.bool false) := by rw [hW0]; simp [go_sem]
  have R1 : W0.frozen? ⟨w.heap.size + 1 + 1, 0, none⟩ = false := by rw [hW0]; simp [go_sem]
  have Z0 : W0.heap.size = w.heap.size + 3 := by rw [hW0]; simp
  gi_wp2_with fail
  rw [← hW0]
  refine ⟨trivial, (callsIn_wide.2 (implOri n _ _ lg l _ (HI.out.on BB.out) (HL.out.on BB.out) hlen)).mono ?_⟩
  rintro e w1 ⟨r, rfl, hr, hb⟩
  clear hW0
  have BB1 := Lib.hid (BB.out.trans (hb.mono BB.out.size))
  have S1 : w1.cell? ⟨w.heap.size + 1, 0, none⟩ = some (.slice al l.length capl) := (hb.cell (p := ⟨w.heap.size + 1, 0, none⟩) (by show w.heap.size + 1 < W0.heap.size; omega)).trans S0
  have T1 : w1.cell? ⟨w.heap.size + 1 + 1, 0, none⟩ = some (.bool false) := (hb.cell (p := ⟨w.heap.size + 1 + 1, 0, none⟩) (by show w.heap.size + 1 + 1 < W0.heap.size; omega)).trans R0
  have U1 : w1.frozen? ⟨w.heap.size + 1 + 1, 0, none⟩ = false := (hb.frozen (p := ⟨w.heap.size + 1 + 1, 0, none⟩) (by show w.heap.size + 1 + 1 < W0.heap.size; omega)).trans R1
  have Z1 : w.heap.size + 3 ≤ w1.heap.size := by have := hb.size; omega
  have HR := Lib.hid (hr.trans (oriI_iff n lg l HL.out.1))
  clear hb S0 R0 R1 Z0 hr
  cases r with
  | false =>
    gi_wp2
    refine ⟨.bool false, by simp [results, Try.f119, go_sem, T1], SaysB.no (fun h => absurd (HR.out.2 h.1) (by decide)) ?_⟩
    exact BB1.out.setCell (by simp <;> omega) _
  | true =>
    have HO := Lib.hid (HR.out.1 rfl)
    have hLL := HO.out.2.1
    have hl2 : l.length ≤ lg.length := by omega
    have hl1 : lg.length ≤ l.length := by omega
    have h7 : lg.length ≤ 7 := by have := HO.out.1.2.1; have := HO.out.1.2.2.1; omega
    have HLL := Lib.hid hLL
    clear hLL
    gi_wp2
    have H0 : Hid (TrK w (.slice al l.length capl) w1) := ⟨S1, T1, U1, BB1.out, Z1⟩
    clear S1 T1 U1 Z1 BB1 HR
    refine wpIn_loop (fun a' w' => ∃ (u5 u6 u7 u15 u16 u17 u18 u19 u20 u21 u22 u23 u24 u25 u26 u27 u28 u29 u30 : Value) (ds : List Deferred), (∃ (i : Nat) (Ds : List Nat), i ≤ l.length ∧ u15 = .int .i64 i ∧ ds = markL Ds ∧ MarksOk (w.heap.size + 3) Ds w' ∧ Hid (∀ v, v < i → TrJ l v) ∧ TrK w (.slice al l.length capl) w') ∧ a' = { tmps := #[.agg #[.int .i64 n, .slice a lg.length cap], .agg #[.slice al l.length capl], .pointer (some ⟨w.heap.size, 0, none⟩), .pointer (some ⟨w.heap.size + 1, 0, none⟩), .pointer (some ⟨w.heap.size + 1 + 1, 0, none⟩), u5, u6, u7, .agg #[.int .i64 n, .slice a lg.length cap], .agg #[.slice al l.length capl], .bool true, .bool false, .pointer (some ⟨w.heap.size + 1, 0, none⟩), .slice al l.length capl, .int .i64 l.length, u15, u16, u17, u18, u19, u20, u21, u22, u23, u24, u25, u26, u27, u28, u29, u30], defers := ds }) (fun a' _ => l.length - (intOf (a'.tmps.getD 15 undef)).toNat) ?atStart ?round
    case atStart =>
      (repeat apply Exists.intro)
      refine ⟨?_, rfl⟩
      exact ⟨0, [], by omega, rfl, rfl, MarksOk.nil _ _, fun v hv => absurd hv (by omega), H0.out⟩
    case round =>
      clear H0
      rintro a' wr ⟨u5, u6, u7, u15, u16, u17, u18, u19, u20, u21, u22, u23, u24, u25, u26, u27, u28, u29, u30, ds, ⟨i, Ds, hi, rfl, rfl, hmk, HJ, hK0⟩, rfl⟩
      have HMK := Lib.hid hmk
      have HK0 := Lib.hid hK0
      obtain ⟨k1, k5, k6, k7, k8⟩ := hK0
      have HB0 := Lib.hid k7
      clear hmk k7
      by_cases hlt : i < l.length
      · obtain ⟨b2, off2, capl', hv, hc2, hmx2, hbk2, hcell2⟩ := HL.out.pos (by omega)
        simp only [Value.slice.injEq] at hv
        obtain ⟨rfl, -, rfl⟩ := hv
        obtain ⟨R, hR, hR2, hR7⟩ := ori_row HO.out i (by omega)
        have e1 := (HB0.out.cell (p := ⟨b2, off2 + i, none⟩) hbk2).trans (hcell2 i hlt)
        rw [hR] at e1
        have HC2 := Lib.hid hcell2
        have HRR := Lib.hid hR
        have HR2 := Lib.hid hR2
        clear hcell2 hR hR2
        obtain ⟨W1, hW1⟩ : ∃ W1, W1 = wr.alloc (.cells #[.int .i64 R] 3) := ⟨_, rfl⟩
        have hg1 : wr.grownBy W1 none := by rw [hW1]; exact grown_alloc wr _ none
        have HK1 := Lib.hid (HK0.out.keep hg1)
        have HMK1 := Lib.hid (HMK.out.grown hg1)
        have HCX := Lib.hid (show W1.cell? ⟨wr.heap.size, 0, none⟩ = some (.int .i64 R) by rw [hW1]; simp [go_sem])
        have HZ1 := Lib.hid (show W1.heap.size = wr.heap.size + 1 by rw [hW1]; simp)
        gi_upto_region 6 with fail
        rw [← hW1]
        clear hW1 k1 k5 k6 k8 hg1 e1
        obtain ⟨k1, k5, k6, -, k8⟩ := HK1.out
        have kx := HCX.out
        unfold maxLen at hmx2
        obtain ⟨W2, hW2⟩ : ∃ W2, W2 = W1.alloc (.cells #[.int .i64 R] 3) := ⟨_, rfl⟩
        have HGB : Hid (∀ W, Below W2.heap.size W2 W → W1.grownBy W none) := fun W hb => grown_trans (by rw [hW2]; exact grown_alloc W1 _ none) (below_grown hb)
        have hcB := Lib.hid (show W2.cell? ⟨W1.heap.size, 0, none⟩ = some (.int .i64 R) by rw [hW2]; simp [go_sem])
        have hz2 := Lib.hid (show W2.heap.size = W1.heap.size + 1 by rw [hW2]; simp)
        gi_wp2_with fail
        refine ⟨trivial, (callsIn_wide.2 (verticesIn_is R _)).mono ?_⟩
        rintro e w2 ⟨rfl, hw2⟩
        obtain rfl : w2 = W2 := by rw [hW2]; exact hw2.symm
        clear hw2 hW2 k1 k5 k6 kx
        have hz3 : w2.heap.size = W1.heap.size + 1 := hz2.out
        have HDL : Hid (∀ D, D ∈ Ds → D < w2.heap.size) := fun D hD => by have := HMK1.out.lt hD; omega
        gi_wp2_with fail
        refine wpIn_rangeFunc_ownF (w0 := w2) rfl (by omega) (gf := 131) (lb := #[.pointer (some ⟨W1.heap.size, 0, none⟩)]) rfl trivial (enters_of Try.func131 (by kernel_rfl) rfl)
          (vin_stops Fence.wide 3 trivial rfl (by omega) W1.heap.size w2.heap.size R w2 (by omega) (by omega) hcB.out) belowK_t (belowK_b (Nat.le_refl _)) (Below.refl _ _) (fun _ => rfl)
          (fun (pre : List (Mem (R : Int))) W => (∀ y ∈ pre, bits .andNot .i64 (nth l y.1) (R : Int) = 0) ∧ Below w2.heap.size w2 W) (fun c (pre : List (Mem (R : Int))) W => c = .ret ∧ (∃ y ∈ pre, bits .andNot .i64 (nth l y.1) (R : Int) ≠ 0) ∧ W.cell? ⟨w.heap.size + 1 + 1, 0, none⟩ = some (.bool false) ∧ Below w.heap.size w W ∧ MarksOk (w.heap.size + 3) Ds W)
          (fun s A B row hs hg hr => ⟨hs.1, ownFrom_below (β := List (Mem (R : Int))) (Nat.le_refl _) (Nat.le_refl _) s A B row hs.2 hg hr⟩)
          (fun c s A B row hs hg hr => ⟨hs.1, hs.2.1, cell_kept hs.2.2.1 hg (fun r e => (hr r e).2), ownFrom_below (β := List (Mem (R : Int))) (Nat.le_refl _) (by omega) s A B row hs.2.2.2.1 hg hr,
            hs.2.2.2.2.keep fun D hD => hg.block D (hs.2.2.2.2.lt hD) (fun e => by have := (hr D e.symm).1; have := HDL.out D hD; omega)⟩)
          ⟨fun y hy => (by cases hy), Below.refl _ _⟩
          (fun y => { tmps := #[.agg #[.int .i64 n, .slice a lg.length cap], .agg #[.slice (some ⟨b2, off2, none⟩) l.length capl], .pointer (some ⟨w.heap.size, 0, none⟩), .pointer (some ⟨w.heap.size + 1, 0, none⟩), .pointer (some ⟨w.heap.size + 1 + 1, 0, none⟩), u5, .pointer (some ⟨wr.heap.size, 0, none⟩), .int .i64 (y.1 : Int), .agg #[.int .i64 n, .slice a lg.length cap], .agg #[.slice (some ⟨b2, off2, none⟩) l.length capl], .bool true, .bool false, .pointer (some ⟨w.heap.size + 1, 0, none⟩), .slice (some ⟨b2, off2, none⟩) l.length capl, .int .i64 l.length, .int .i64 i, .bool true, .pointer (some ⟨b2, off2 + i, none⟩), .int .i64 R, .int .i64 R, .func (.func 131) #[] #[.pointer (some ⟨W1.heap.size, 0, none⟩)], .int .i64 (y.1 : Int), u22, u23, u24, u25, u26, u27, u28, u29, u30], defers := [] }) ?assign ?body ?done ?stop
        case assign =>
          intro li y W K hK
          gi_wp2
          exact hK
        case body =>
          rintro li pre y W ⟨hpre, hB⟩ hlen
          have hgW := HGB.out W hB
          obtain ⟨d1, d3, d4, dB, dZ⟩ := HK1.out.keep hgW
          have d5 : W.cell? ⟨wr.heap.size, 0, none⟩ = some (.int .i64 R) := by rw [(gcell hgW).1 _ _ (by have := HZ1.out; omega) (by simp)]; exact HCX.out
          have HM1 := Lib.hid (HMK1.out.grown hgW)
          obtain ⟨k, hk7, hkb⟩ := y
          have hkl : k < l.length := Nat.lt_of_lt_of_le (bit_lt HR2.out ((bitAt_nat R k).1 hkb)) hl1
          obtain ⟨z, hz⟩ : ∃ z, z = nth l k := ⟨_, rfl⟩
          have c1 := (dB.cell (p := ⟨b2, off2 + k, none⟩) hbk2).trans (HC2.out k hkl)
          rw [← hz] at c1
          obtain ⟨Q, hQ⟩ : ∃ Q, Q = bits .andNot .i64 z (R : Int) := ⟨_, rfl⟩
          have e2 : bits .andNot .i64 z (R : Int) = Q := hQ.symm
          have HZZ := Lib.hid hz
          have HQQ := Lib.hid hQ
          have HPRE := Lib.hid hpre
          have HBW := Lib.hid hB
          have HDB := Lib.hid dB
          have D3 := Lib.hid d3
          have hmix : Try.prog.follows .mixedOrders = true := by kernel_rfl
          clear hz hQ hpre hB dB hgW
          by_cases h0 : Q = 0
          · have q1 : (Q != 0) = false := by rw [bne_eq_false_iff_eq]; exact h0
            have H0 := Lib.hid h0
            clear h0
            gi_wp2
            refine wpIn_region_still_tail 6 hmix (by kernel_rfl) (by kernel_rfl) ?_
            simp only [List.take_succ_cons, List.take_zero, List.drop_succ_cons, List.drop_zero]
            repeat still_step
            refine wpStill_nil ?_
            gi_wp2
            refine ⟨KeepsOthers.drew _, (Below.refl _ _).drew, ⟨fun y hy => ?_, HBW.out.drew⟩⟩
            rcases List.mem_append.1 hy with hy | hy
            · exact HPRE.out y hy
            · simp at hy
              subst hy
              show bits .andNot .i64 (nth l k) (R : Int) = 0
              rw [← HZZ.out, ← HQQ.out]; exact H0.out
          · have q1 : (Q != 0) = true := by rw [bne_iff_ne]; exact h0
            have H0 := Lib.hid h0
            clear h0
            gi_wp2
            refine wpIn_region_still_tail 6 hmix (by kernel_rfl) (by kernel_rfl) ?_
            simp only [List.take_succ_cons, List.take_zero, List.drop_succ_cons, List.drop_zero]
            repeat still_step
            refine wpStill_nil ?_
            gi_wp2
            refine ⟨(KeepsOthers.drew _).trans (KeepsOthers.setCell _ _ _), ⟨rfl, ⟨⟨k, hk7, hkb⟩, by simp, ?_⟩, ?_, HDB.out.drew.setCell (by simp <;> omega) _, HM1.out.drew.setCell (by omega) _⟩⟩
            · show bits .andNot .i64 (nth l k) (R : Int) ≠ 0
              rw [← HZZ.out, ← HQQ.out]; exact H0.out
            · exact World.cell?_setCell_same' _ _ _ (by show (W.cell? _).isSome = true; rw [D3.out]; rfl)
        case done =>
          rintro D ys W hD hys ⟨hall, hB⟩ hK
          have hgW := HGB.out W hB
          have HKW := Lib.hid (HK1.out.keep hgW)
          have HMW : Hid (MarksOk (w.heap.size + 3) (D :: Ds) W) := (HMK1.out.grown hgW).cons (by omega) hK fun hDD => by have := HDL.out D hDD; omega
          have HT : Hid (∀ v, v < i + 1 → TrJ l v) := fun v hv => by
            rcases Nat.lt_or_ge v i with h | h
            · exact HJ.out v h
            · obtain rfl : v = i := by omega
              intro k hk7 hkb
              rw [HRR.out] at hkb ⊢
              have hm : k ∈ memU (R : Int) 7 := by unfold memU; simp [hk7, hkb]
              rw [← hys] at hm
              obtain ⟨y, hy, rfl⟩ := List.mem_map.1 hm
              exact hall y hy
          clear hall hB hK hgW hys
          gi_wp2
          refine ⟨?_, ?measure⟩
          (repeat apply Exists.intro)
          refine ⟨?rel, rfl⟩
          case rel => exact ⟨i + 1, D :: Ds, by omega, by go_num, rfl, HMW.out, HT.out, HKW.out⟩
          case measure => simp [intOf]; omega
        case stop =>
          rintro D c pre W hD hpre ⟨rfl, ⟨y, hy, hne⟩, hcr, hB, hm⟩ hK
          have HMW : Hid (MarksOk (w.heap.size + 3) (D :: Ds) W) := hm.cons (by omega) hK fun hDD => by have := HDL.out D hDD; omega
          have hc5 := shut_cell (D :: Ds) _ (w.heap.size + 1 + 1) 0 (.bool false) HMW.out hcr
          have HBS := Lib.hid (shut_below (B := w.heap.size + 3) (by omega) (D :: Ds) _ hB HMW.out)
          have HN : Hid (¬ TrP n lg l) := fun h => tr_hit h hlt (by rw [HRR.out]; exact y.2.2) (by rw [HRR.out]; exact hne)
          clear hB hm hK hcr hne
          gi_wp2
          refine leave_with (Ds := D :: Ds) HMW.out ?_
          exact ⟨.bool false, by simp [results, Try.f119, go_sem, hc5], SaysB.no HN.out HBS.out⟩
      · obtain rfl : i = l.length := by omega
        have hc5 := shut_cell Ds _ (w.heap.size + 1 + 1) 0 (.bool true) (HMK.out.setCell (by omega) _) (World.cell?_setCell_same' wr ⟨w.heap.size + 1 + 1, 0, none⟩ (.bool true) (by rw [k5]; rfl))
        have HY : Hid (TrP n lg l) := tr_all HO.out HJ.out
        gi_wp2
        refine leave_with (B := w.heap.size + 3) (HMK.out.setCell (by omega) _) ?_
        exact ⟨.bool true, by simp [results, Try.f119, go_sem, hc5], SaysB.yes HY.out (shut_below (B := w.heap.size + 3) (by omega) Ds _ (HK0.out.2.2.2.1.setCell (by simp <;> omega) _) (HMK.out.setCell (by omega) _))⟩

set_option maxHeartbeats 4000000 in
set_option maxRecDepth 100000 in
theorem specTr (n : Int) (v u : Value) (l T : List Int) (w : World) (h : Ints w v l) (g : Ints w u T) (hT : T.length ≤ 1048576) :
    Calls Try.prog 118 #[.agg #[.int .i64 n, v], .agg #[u]] w (SaysB (TrP n l T) w) := by
  obtain ⟨ad, cap, rfl, -, -⟩ := h.form
  obtain ⟨bd, cap', rfl, -, -⟩ := g.form
  have HI := Lib.hid h
  have HJ := Lib.hid g
  clear h g
  have F0 := Lib.hid (show Below w.heap.size w ((w.alloc (.cells #[.int .i64 n, .slice ad l.length cap] 28)).alloc (.cells #[.slice bd T.length cap'] 79)) from ((Below.refl _ w).alloc (Nat.le_refl _) _).alloc (by simp) _)
  have A0 := Lib.hid (show Box w.heap.size [.int .i64 n, .slice ad l.length cap] ((w.alloc (.cells #[.int .i64 n, .slice ad l.length cap] 28)).alloc (.cells #[.slice bd T.length cap'] 79)) from (Box.new w _ _).keep (grown_alloc _ _ none) (by simp))
  have C0 := Lib.hid (show Box (w.heap.size + 1) [.slice bd T.length cap'] ((w.alloc (.cells #[.int .i64 n, .slice ad l.length cap] 28)).alloc (.cells #[.slice bd T.length cap'] 79)) by have h := Box.new (w.alloc (.cells #[.int .i64 n, .slice ad l.length cap] 28)) 79 [.slice bd T.length cap']; simpa using h)
  go_enter Try.func118, Try.ntmps118
  go_wp2_with fail
  refine (specOri n _ _ l T _ (HI.out.on F0.out) (HJ.out.on F0.out) hT).mono ?_
  rintro e w1 ⟨r, rfl, hr, hb⟩
  have F1 := Lib.hid (F0.out.trans (hb.mono F0.out.size))
  have A1 := Lib.hid (A0.out.on hb)
  have C1 := Lib.hid (C0.out.on hb)
  have HR := Lib.hid hr
  clear hr hb A0 C0 F0
  have x0 : w1.cell? ⟨w.heap.size, 0, none⟩ = some (.int .i64 n) := (A1.out).1 0 _ rfl
  have y0 : w1.cell? ⟨w.heap.size + 1, 0, none⟩ = some (.slice bd T.length cap') := (C1.out).1 0 _ rfl
  cases r with
  | false =>
    go_wp2
    go_ret
    exact SaysB.no (fun h => absurd (HR.out.2 h.1) (by decide)) F1.out
  | true =>
    have HO := Lib.hid (HR.out.1 (by first | rfl | trivial))
    have hTl := HO.out.2.1
    have hn7 := HO.out.1.2.1
    have hnl := HO.out.1.2.2.1
    have hle : T.length ≤ l.length := by omega
    have hge : l.length ≤ T.length := by omega
    have h7 : l.length ≤ 7 := by omega
    have hnle : n ≤ (l.length : Int) := by omega
    have hnge : (l.length : Int) ≤ n := by omega
    clear hTl hnl
    go_wp2
    clear x0 y0
    go_loopw [5] (fun i wr => ∃ j : Nat, j ≤ l.length ∧ i = .int .i64 j ∧ Below w1.heap.size w1 wr ∧ Hid (∀ v, v < j → ∀ b, b < l.length → obit T v b = true → bits .and .i64 (nth T b) (nth T v) = nth T b)) (fun i _ => l.length - (intOf i).toNat)
    case atStart => exact ⟨0, by omega, rfl, Below.refl _ _, fun i hi => absurd hi (by omega)⟩
    case round =>
      obtain ⟨j, hj, rfl, hbel, HJ2⟩ := hrel
      have HW := Lib.hid (F1.out.trans (hbel.mono F1.out.size))
      have HBL := Lib.hid hbel
      have x0 : wr.cell? ⟨w.heap.size, 0, none⟩ = some (.int .i64 n) := (A1.out.on hbel).1 0 _ rfl
      have y0 : wr.cell? ⟨w.heap.size + 1, 0, none⟩ = some (.slice bd T.length cap') := (C1.out.on hbel).1 0 _ rfl
      clear hbel
      by_cases hlt : j < l.length
      · have hltT : j < T.length := by omega
        have hji : (j : Int) < n := by omega
        obtain ⟨b', off', cap1', hv, _, _, hb', hcell'⟩ := (HJ.out.on HW.out).pos (by omega)
        simp only [Value.slice.injEq] at hv
        obtain ⟨rfl, -, rfl⟩ := hv
        obtain ⟨R, hR, hR2, hR7⟩ := ori_row HO.out j hlt
        have c1 := hcell' j (by omega)
        rw [hR] at c1
        obtain ⟨m, hm⟩ : ∃ m, m = (memN R).length := ⟨_, rfl⟩
        have HLR := Lib.hid (show (listR (R : Int)).length = m by rw [hm]; exact listR_len hR7)
        have hm7 : m ≤ 7 := by rw [← HLR.out]; exact listR_length _
        have HNT : Hid (∀ i, i < m → nth (listR (R : Int)) i = (klN R i : Int) ∧ klN R i < l.length ∧ klN R i < 7) := fun i hi => by
          rw [hm] at hi
          exact ⟨listR_nth hR7 hi, kl_lt hR2 hi, (kl_bit hi).1⟩
        have HMM := Lib.hid hm
        have HRR := Lib.hid hR
        have HR2 := Lib.hid hR2
        clear hR hR2 hm hcell'
        go_wp2_with fail
        refine (specListOf (R : Int) _).mono ?_
        rintro e w2 ⟨vk, rfl, ho, hb⟩
        have HB2 := Lib.hid (HBL.out.trans (hb.mono HBL.out.size))
        obtain ⟨ak, capk, rfl, -, -⟩ := ho.ints.form
        have HK := Lib.hid ho.ints
        clear ho hb x0 y0 c1
        rw [HLR.out] at HK ⊢
        go_wp2
        go_loopw [7] (fun i w3 => ∃ k : Nat, k ≤ m ∧ i = .int .i64 k ∧ Below w2.heap.size w2 w3 ∧ Hid (∀ q, q < k → bits .and .i64 (nth T (klN R q)) (R : Int) = nth T (klN R q))) (fun i _ => m - (intOf i).toNat)
        case atStart => exact ⟨0, by omega, rfl, Below.refl _ _, fun q hq => absurd hq (by omega)⟩
        case round =>
          clear HBL HW
          obtain ⟨k, hk, rfl, hbel, HJ3⟩ := hrel
          have HBL := Lib.hid (HB2.out.trans (hbel.mono HB2.out.size))
          have HW := Lib.hid (F1.out.trans (HBL.out.mono F1.out.size))
          have HB3 := Lib.hid hbel
          by_cases hltk : k < m
          · obtain ⟨bk, offk, cap2, hv, _, _, hbk, hck⟩ := (HK.out.on hbel).pos (by rw [HLR.out]; omega)
            simp only [Value.slice.injEq] at hv
            obtain ⟨rfl, -, rfl⟩ := hv
            have y0 : wr.cell? ⟨w.heap.size + 1, 0, none⟩ = some (.slice (some ⟨b', off', none⟩) T.length cap') := (C1.out.on HBL.out).1 0 _ rfl
            obtain ⟨p0, p1, p2⟩ := HNT.out k hltk
            have c1 := hck k (by rw [HLR.out]; exact hltk)
            rw [p0] at c1
            obtain ⟨kk, hkk⟩ : ∃ kk, kk = klN R k := ⟨_, rfl⟩
            rw [← hkk] at c1 p1 p2
            have hkT : kk < T.length := by omega
            obtain ⟨b3, off3, cap3, hv3, _, _, _, hcT⟩ := (HJ.out.on HW.out).pos (by omega)
            simp only [Value.slice.injEq, Option.some.injEq, Addr.mk.injEq, and_true] at hv3
            obtain ⟨⟨rfl, rfl⟩, -, -⟩ := hv3
            have c2 := hcT kk hkT
            have c3 := hcT j hltT
            rw [HRR.out] at c3
            obtain ⟨z, hz⟩ : ∃ z, z = nth T kk := ⟨_, rfl⟩
            rw [← hz] at c2
            obtain ⟨Q, hQ⟩ : ∃ Q, Q = bits .and .i64 z (R : Int) := ⟨_, rfl⟩
            have e1 : bits .and .i64 z (R : Int) = Q := hQ.symm
            have HQQ := Lib.hid hQ
            have HZZ := Lib.hid hz
            have HKK := Lib.hid hkk
            clear hQ hz hkk hck p0 hbel hcT
            by_cases g0 : Q = z
            · have d1 : (Q != z) = false := by rw [bne_eq_false_iff_eq]; exact g0
              have HN : Hid (∀ q, q < k + 1 → bits .and .i64 (nth T (klN R q)) (R : Int) = nth T (klN R q)) := fun q hq => by
                rcases Nat.lt_or_ge q k with h | h
                · exact HJ3.out q h
                · obtain rfl : q = k := by omega
                  rw [← HKK.out, ← HZZ.out, ← HQQ.out]; exact g0
              clear g0
              go_wp2
              go_quiet (fail)
              go_wp2
              go_roundw
              case rel => exact ⟨k + 1, by omega, by go_num, below_drewN HB3.out _, HN.out⟩
              case measure => simp [intOf]; omega
            · have d1 : (Q != z) = true := by rw [bne_iff_ne]; exact g0
              have HN : Hid (¬ TrP n l T) := fun h => g0 (by
                have hb := (kl_bit (X := R) (i := k) (by rw [← HMM.out]; exact hltk)).2
                have := h.2 j hlt kk p1 (by unfold obit; rw [HRR.out]; exact decide_eq_true ((bitAt_nat R kk).2 (by rw [HKK.out]; exact hb)))
                rw [HRR.out, ← HZZ.out, ← HQQ.out] at this
                exact this)
              clear g0
              go_wp2
              go_quiet (fail)
              go_wp2
              go_ret
              exact SaysB.no HN.out (below_drewN HW.out _)
          · obtain rfl : k = m := by omega
            have HN : Hid (∀ v, v < j + 1 → ∀ b, b < l.length → obit T v b = true → bits .and .i64 (nth T b) (nth T v) = nth T b) := fun v hv b hb ho => by
              rcases Nat.lt_or_ge v j with h | h
              · exact HJ2.out v h b hb ho
              · obtain rfl : v = j := by omega
                unfold obit at ho
                rw [HRR.out, decide_eq_true_iff] at ho
                obtain ⟨q, hq, hqe⟩ := mem_kl (X := R) (v := b) (by omega) ((bitAt_nat R b).1 ho)
                have := HJ3.out q (by rw [HMM.out]; exact hq)
                rw [hqe] at this
                rw [HRR.out]; exact this
            clear hbel
            go_wp2
            go_roundw
            case rel => exact ⟨j + 1, by omega, by go_num, HBL.out, HN.out⟩
            case measure => simp [intOf]; omega
      · obtain rfl : j = l.length := by omega
        have HN := Lib.hid (show TrP n l T from ⟨HO.out, HJ2.out⟩)
        go_wp2
        go_ret
        exact SaysB.yes HN.out HW.out

end Go.Proofs.Ytcpchdnhhjhpaaa
