/- Walks over AroundSet. -/
import Derived.Test.YtpifgmmmmhenmabB
import Derived.Test.YtpifgmmmmhenmabR
import Derived.Test.YtpifgmmmmhenmabV2
import Derived.RangeFuncBox
import Derived.Maps.Range
namespace Go.Proofs.Ytpifgmmmmhenmab
set_option linter.unusedVariables false
set_option linter.unusedSimpArgs false
open Go.RowKit Go.Shelf

theorem memU_high {X n : Nat} (h : X < 2 ^ n) (m : Nat) : memU (X : Int) (n + m) = memU (X : Int) n := by
  induction m with
  | zero => rfl
  | succ m ih =>
    rw [← Nat.add_assoc, memU_succ, ih]
    have : ¬ bitAt (X : Int) (n + m) = 1 := fun hb => by
      have h2 := bit_lt h ((bitAt_nat X (n + m)).1 hb)
      omega
    simp [this]

theorem memU_full {X n : Nat} (h : X < 2 ^ n) (hn : n ≤ 7) : memU (X : Int) n = memN X := by
  have := memU_high h (7 - n)
  rw [show n + (7 - n) = 7 by omega, memU_nat] at this
  exact this.symm

theorem fold_step {l : List Int} {X j : Nat} (h : bitAt (X : Int) j = 1) : foldN (rowN l) X (memU (X : Int) (j + 1)) = foldN (rowN l) X (memU (X : Int) j) ||| rowN l j := by
  rw [memU_succ, if_pos h, foldN_snoc]

theorem fold_same {l : List Int} {X j : Nat} (h : bitAt (X : Int) j = 0) : foldN (rowN l) X (memU (X : Int) (j + 1)) = foldN (rowN l) X (memU (X : Int) j) := by
  rw [memU_succ, if_neg (by rw [h]; decide), List.append_nil]

set_option maxHeartbeats 1000000 in
set_option maxRecDepth 100000 in
theorem specAround (n : Int) (v : Value) (l : List Int) (x : Int) (w : World) (h : Ints w v l) :
    Calls Try.prog 127 #[.agg #[.int .i64 n, v], .int .i64 x] w (SaysN (aroundR n l x) w) := by
  obtain ⟨a, cap, rfl, -, -⟩ := h.form
  have HA := argG' (T := 27) (n := n) h
  have HI := Lib.hid h
  clear h
  go_enter Try.func127, Try.ntmps127
  go_wp2_with fail
  refine (specIsSet n _ l x _ (HI.out.alloc _)).mono ?_
  rintro e w1 ⟨r, rfl, hr, hb⟩
  have HB := Lib.hid (hb.mono (B' := w.heap.size + 1) (by simp))
  clear hb
  obtain ⟨c0, c1, -, -, hz⟩ := HA.out _ HB.out
  cases r with
  | false =>
    have HN := Lib.hid (show aroundR n l x = 0 by unfold aroundR; rw [if_neg (by simpa using hr)])
    clear hr
    go_wp2
    go_ret
    exact ⟨by rw [HN.out]; rfl, (HA.out _ HB.out).2.2.2.1⟩
  | true =>
    have hg := hr.1 rfl
    have HN := Lib.hid (show aroundR n l x = ((aroundN (rowN l) x.toNat : Nat) : Int) by unfold aroundR; rw [if_pos hg])
    have HG := Lib.hid hg
    obtain ⟨X, hX⟩ : ∃ X, X = x.toNat := ⟨_, rfl⟩
    have hxn := hg.nat
    rw [← hX] at hxn HN
    obtain ⟨rfl, hX2, hl7⟩ := hxn
    have hX7 : X < 128 := Nat.lt_of_lt_of_le hX2 (two_le _ hl7)
    have hnl := hg.1.2.2.1
    have hle : (l.length : Int) ≤ n := by omega
    have HX2 := Lib.hid hX2
    clear hr hg c0 c1 hz hX hX2
    go_wp2
    go_loopw [5, 6] (fun o i wr => ∃ (j A : Nat), j ≤ l.length ∧ i = .int .i64 j ∧ o = .int .i64 A ∧ A < 128 ∧ Hid (A = foldN (rowN l) X (memU (X : Int) j)) ∧ Below (w.heap.size + 1) (w.alloc (.cells #[.int .i64 n, .slice a l.length cap] 27)) wr) (fun _ i _ => l.length - (intOf i).toNat)
    case atStart => exact ⟨0, X, by omega, rfl, rfl, hX7, rfl, HB.out⟩
    case round =>
      obtain ⟨j, A, hj, rfl, rfl, hA7, HF, hbel⟩ := hrel
      obtain ⟨c0, c1, cI, cB, hz⟩ := HA.out _ hbel
      have HBL := Lib.hid hbel
      have HCB := Lib.hid cB
      clear hbel cB
      by_cases hlt : j < l.length
      · obtain ⟨b, off, cap', hv, _, hmx, hb, hcell⟩ := cI.pos (by omega)
        simp only [Value.slice.injEq] at hv
        obtain ⟨rfl, -, rfl⟩ := hv
        obtain ⟨hZ2, hZ⟩ := HG.out.1.row_lt j hlt
        obtain ⟨Z, hZ'⟩ : ∃ Z, Z = rowN l j := ⟨_, rfl⟩
        rw [← hZ'] at hZ2 hZ
        have hZ7 : Z < 128 := Nat.lt_of_lt_of_le hZ2 (two_le _ hl7)
        have d1 := hcell j hlt
        rw [hZ] at d1
        obtain ⟨t, ht⟩ : ∃ t, t = bitAt (X : Int) j := ⟨_, rfl⟩
        have e1 : bits .and .i64 ((X : Int) / 2 ^ j) 1 = t := by rw [ht]; exact and_one_bit X j
        have z1 : t = 0 ∨ t = 1 := by rw [ht]; exact bitAt_two _ _
        have hjn : (j : Int) < n := by omega
        unfold maxLen at hmx
        have o1 := (bits_nat A Z hA7 hZ7).2
        obtain ⟨C, hC⟩ : ∃ C, C = A ||| Z := ⟨_, rfl⟩
        rw [← hC] at o1
        have hC7 : C < 128 := by rw [hC]; exact Nat.or_lt_two_pow (n := 7) hA7 hZ7
        have HC := Lib.hid hC
        have HZ := Lib.hid hZ'
        have HT := Lib.hid ht
        clear hcell hZ' ht hC hZ hZ2 cI
        rcases z1 with rfl | rfl
        · go_wp2
          go_roundw
          case rel => exact ⟨j + 1, A, by omega, by go_num, rfl, hA7, by rw [HF.out]; exact (fold_same HT.out.symm).symm, HBL.out⟩
          case measure => simp [intOf]; omega
        · go_wp2
          go_roundw
          case rel => exact ⟨j + 1, C, by omega, by go_num, rfl, hC7, by rw [HC.out, HZ.out, HF.out]; exact (fold_step HT.out.symm).symm, HBL.out⟩
          case measure => simp [intOf]; omega
      · obtain rfl : j = l.length := by omega
        clear cI
        go_wp2
        go_ret
        exact ⟨by rw [HN.out, HF.out, memU_full HX2.out hl7]; rfl, HCB.out⟩

attribute [local go_sem] Oper.semAt_some

/-- Between two rounds: the box holds what lies around those that have come. -/
def AroI (l : List Int) (X q : Nat) (w2 : World) (pre : List (Mem (X : Int))) (W : World) : Prop := Boxed W q 3 (.int .i64 ((foldN (rowN l) X (pre.map (·.1)) : Nat) : Int)) ∧ w2.grownBy W (some q)

theorem grown_then {a b c : World} {q : Nat} {row : Option Nat} (h : a.grownBy b (some q)) (k : b.grownBy c row) (hr : ∀ r, row = some r → a.heap.size ≤ r) : a.grownBy c (some q) := h.andThen k fun j hj => .inl (hr j hj)

theorem aroI_own {l : List Int} {X q : Nat} {w2 : World} (hq : q < w2.heap.size) : OwnFrom w2.heap.size (AroI l X q w2) := fun s A B row hs hg hr =>
  ⟨hs.1.kept hg (fun e => by have := (hr q e.symm).1; omega), grown_then hs.2 hg fun r e => (hr r e).1⟩

set_option maxHeartbeats 2000000 in
set_option maxRecDepth 100000 in
theorem implAround (n : Int) (v : Value) (l : List Int) (x : Int) (w : World) (h : Ints w v l) :
    Calls Try.prog 119 #[.agg #[.int .i64 n, v], .int .i64 x] w (SaysN (aroundR n l x) w) := by
  obtain ⟨a, cap, rfl, -, -⟩ := h.form
  have HI := Lib.hid h
  clear h
  refine (callsIn_wide (n := 4)).1 ?_
  refine callsIn_of_wp_marks Try.func119 rfl trivial ?_ rfl
  simp only [Try.ntmps119, List.size_toArray, List.length_cons, List.length_nil, Nat.reduceAdd, Nat.reduceSub, Array.replicate_succ, Array.replicate_zero, List.push_toArray, List.append_toArray, List.nil_append, List.cons_append]
  obtain ⟨W0, hW0⟩ : ∃ W0, W0 = w.alloc (.cells #[.int .i64 n, .slice a l.length cap] 27) := ⟨_, rfl⟩
  have BX := Lib.hid (show BoxG w.heap.size n (.slice a l.length cap) W0 by rw [hW0]; exact BoxG.new w 27 n (.slice a l.length cap) ⟨_, _, _, rfl⟩)
  have II := Lib.hid (show Ints W0 (.slice a l.length cap) l by rw [hW0]; exact HI.out.alloc _)
  have BB := Lib.hid (show Below w.heap.size w W0 by rw [hW0]; exact (Below.refl _ w).alloc (Nat.le_refl _) _)
  have hz0 : w.heap.size < W0.heap.size := by rw [hW0]; simp
  gi_wp2_with fail
  rw [← hW0]
  refine ⟨trivial, (callsIn_wide.2 (implIsSet n _ l x _ II.out)).mono ?_⟩
  rintro e w1 ⟨r, rfl, hr, hb⟩
  clear hW0
  have BX1 := Lib.hid (BX.out.keep (below_grown hb) (by simp))
  have II1 := Lib.hid (II.out.on hb)
  have BB1 := Lib.hid (BB.out.trans (hb.mono BB.out.size))
  have hz1 : w.heap.size < w1.heap.size := Nat.lt_of_lt_of_le hz0 hb.size
  clear hb BX II BB hz0
  obtain ⟨c0, c1, cz⟩ := BX1.out
  cases r with
  | false =>
    have HN := Lib.hid (show aroundR n l x = 0 by unfold aroundR; rw [if_neg (by simpa using hr)])
    clear hr
    gi_wp2
    exact ⟨_, results_tmp rfl _ _ _, by rw [HN.out]; rfl, BB1.out⟩
  | true =>
    have hg := hr.1 rfl
    have HN := Lib.hid (show aroundR n l x = ((aroundN (rowN l) x.toNat : Nat) : Int) by unfold aroundR; rw [if_pos hg])
    have HG := Lib.hid hg
    obtain ⟨X, hX⟩ : ∃ X, X = x.toNat := ⟨_, rfl⟩
    have hxn := hg.nat
    rw [← hX] at hxn HN
    obtain ⟨rfl, hX2, hl7⟩ := hxn
    have hX7 : X < 128 := Nat.lt_of_lt_of_le hX2 (two_le _ hl7)
    have HX2 := Lib.hid hX2
    clear hr hg hX hX2
    obtain ⟨q, hq⟩ : ∃ q, q = w1.heap.size := ⟨_, rfl⟩
    obtain ⟨Wa, hWa⟩ : ∃ Wa, Wa = w1.alloc (.cells #[.int .i64 X] 3) := ⟨_, rfl⟩
    have Q1 : Boxed Wa q 3 (.int .i64 (X : Int)) := by rw [hWa, hq]; exact Boxed.new w1 _ _
    have hza : Wa.heap.size = q + 1 := by rw [hWa, hq]; simp
    have G1 : w1.grownBy Wa none := by rw [hWa]; exact grown_alloc _ _ _
    obtain ⟨W2, hW2⟩ : ∃ W2, W2 = Wa.alloc (.cells #[.int .i64 X] 3) := ⟨_, rfl⟩
    have Q2 : Boxed W2 q 3 (.int .i64 (X : Int)) := by rw [hW2]; exact Q1.alloc _
    have hcB : W2.cell? ⟨q + 1, 0, none⟩ = some (.int .i64 X) := by rw [hW2, ← hza]; simp [go_sem]
    have hz2 : W2.heap.size = q + 2 := by rw [hW2]; simp [hza]
    have G2 : w1.grownBy W2 none := grown_trans G1 (by rw [hW2]; exact grown_alloc _ _ _)
    have K : Hid (∀ W, W2.grownBy W (some q) → BoxG w.heap.size n (.slice a l.length cap) W ∧ Ints W (.slice a l.length cap) l ∧ Below w.heap.size w W ∧ q + 2 ≤ W.heap.size) := fun W hg => by
      have hg1 : w1.grownBy W none := G2.andThen hg fun j hj => .inl (by have := Option.some.inj hj; omega)
      exact ⟨BX1.out.keep hg1 (by simp), II1.out.on ⟨hg1.os, hg1.tape, hg1.output, hg1.size, fun k hk => hg1.block k hk (by simp)⟩, BB1.out.grown hg1 BB1.out.size (fun k hk => by simp at hk), by have := hg.size; omega⟩
    clear Q1 G1 G2
    have hwq : w.heap.size ≤ q := by omega
    gi_wp2_with fail
    rw [← hWa]
    refine ⟨trivial, (callsIn_wide.2 (verticesIn_is X _)).mono ?_⟩
    rintro e w2 ⟨rfl, hw2⟩
    obtain rfl : w2 = W2 := by rw [hW2]; exact hw2.symm
    rw [hza, ← hq]
    clear hw2 hW2 hWa c0 c1 cz hza hq
    gi_wp2_with fail
    refine wpIn_rangeFunc_ownF (w0 := w2) rfl (by omega) (gf := 108) (lb := #[.pointer (some ⟨q + 1, 0, none⟩)]) rfl trivial (enters_of Try.func108 (by kernel_rfl) rfl)
      (vin_stopsC Fence.wide 3 trivial rfl (by omega) (q + 1) X w2 (by omega) hcB) keepC_t (keepC_b (by omega)) (Below.refl _ _) (fun _ => rfl)
      (AroI l X q w2) (fun _ _ _ => False) (aroI_own (by omega)) (fun _ _ _ _ _ hs _ _ => hs) ⟨Q2, World.grownBy.refl _ _⟩
      (fun y => { tmps := #[.agg #[.int .i64 n, .slice a l.length cap], .int .i64 (X : Int), .pointer (some ⟨w.heap.size, 0, none⟩), undef, .int .i64 0, .pointer (some ⟨q, 0, none⟩), .int .i64 (y.1 : Int), .agg #[.int .i64 n, .slice a l.length cap], .int .i64 (X : Int), .bool true, .bool false, .int .i64 (X : Int), .int .i64 (X : Int), .func (.func 108) #[] #[.pointer (some ⟨q + 1, 0, none⟩)], .int .i64 (y.1 : Int), undef, undef, undef, undef, undef, undef, undef, undef], defers := [] }) ?assign ?body ?done ?stop
    case assign =>
      intro l y W K hK
      gi_wp2
      exact hK
    case body =>
      rintro li pre y W ⟨hQ, hB⟩ hlen
      obtain ⟨⟨d1, d2, dz⟩, dI, dB, dZ⟩ := K.out W hB
      obtain ⟨k, hk7, hkb⟩ := y
      have hkl : k < l.length := bit_lt HX2.out ((bitAt_nat X k).1 hkb)
      obtain ⟨b', off', cap', hv, _, hmx, hb', hcell⟩ := dI.pos (by omega)
      simp only [Value.slice.injEq] at hv
      obtain ⟨rfl, -, rfl⟩ := hv
      obtain ⟨hZ2, hZ⟩ := HG.out.1.row_lt k hkl
      obtain ⟨Z, hZ'⟩ : ∃ Z, Z = rowN l k := ⟨_, rfl⟩
      rw [← hZ'] at hZ2 hZ
      have hZ7 : Z < 128 := Nat.lt_of_lt_of_le hZ2 (two_le _ hl7)
      have e1 := hcell k hkl
      rw [hZ] at e1
      have hA2 : foldN (rowN l) X (pre.map (·.1)) < 2 ^ l.length := foldN_lt _ _ _ _ HX2.out fun v hv => by
        obtain ⟨y', -, rfl⟩ := List.mem_map.1 hv
        exact (HG.out.1.row_lt _ (bit_lt HX2.out ((bitAt_nat X y'.1).1 y'.2.2))).1
      obtain ⟨A, hA⟩ : ∃ A, A = foldN (rowN l) X (pre.map (·.1)) := ⟨_, rfl⟩
      rw [← hA] at hQ hA2
      have hA7 : A < 128 := Nat.lt_of_lt_of_le hA2 (two_le _ hl7)
      have f1 := hQ.cell
      have f2 := hQ.frozen
      have o1 := (bits_nat A Z hA7 hZ7).2
      have HE := Lib.hid (show foldN (rowN l) X ((pre ++ [(⟨k, hk7, hkb⟩ : Mem (X : Int))]).map (·.1)) = A ||| Z by rw [List.map_append, hA, hZ']; exact foldN_snoc _ _ _ _)
      obtain ⟨C, hC⟩ : ∃ C, C = A ||| Z := ⟨_, rfl⟩
      rw [← hC] at o1 HE
      have HQ := Lib.hid hQ
      have HBW := Lib.hid hB
      unfold maxLen at hmx
      clear hcell hZ hZ' hZ2 hA hA2 hQ hB dB dI hC
      have hmix : Try.prog.follows .mixedOrders = true := by kernel_rfl
      gi_wp2
      refine wpIn_region_still_tail 7 hmix (by kernel_rfl) (by kernel_rfl) ?_
      simp only [List.take_succ_cons, List.take_zero, List.drop_succ_cons, List.drop_zero]
      repeat still_step
      refine wpStill_nil ?_
      gi_wp2
      have hQ' : Boxed W.drew q 3 (.int .i64 (A : Int)) := HQ.out
      refine ⟨(KeepsOthers.drew W).trans (KeepsOthers.setCell _ _ _), World.cell?_setCell_far _ _ _ _ (by show q ≠ q + 1; omega), ?_, ?_⟩
      · rw [HE.out]; exact hQ'.set _
      · exact (HBW.out.trans ⟨rfl, rfl, rfl, Nat.le_refl _, fun _ _ _ => rfl⟩ : w2.grownBy W.drew (some q)).trans (grownBy_setCell' _ _ _)
    case done =>
      rintro D ys W hD hys ⟨hQ, hB⟩ hK
      obtain ⟨⟨d1, d2, dz⟩, dI, dB, dZ⟩ := K.out W hB
      have f1 := hQ.cell
      have HDB := Lib.hid dB
      have HE := Lib.hid (show foldN (rowN l) X (ys.map (·.1)) = aroundN (rowN l) X by rw [hys, memU_nat]; rfl)
      clear hQ hB dB dI hys
      gi_wp2
      refine ⟨by simp, .inl ⟨_, _, rfl, run_takeDeferred hK, ?_⟩⟩
      exact ⟨_, results_tmp rfl _ _ _, by rw [HN.out, ← HE.out]; rfl, HDB.out.trans (belowK_b (w := w) (Nat.le_refl _) W D _ _ (by omega) hK rfl rfl)⟩
    case stop =>
      rintro D c pre W hD hpre h hK
      exact h.elim

end Go.Proofs.Ytpifgmmmmhenmab
