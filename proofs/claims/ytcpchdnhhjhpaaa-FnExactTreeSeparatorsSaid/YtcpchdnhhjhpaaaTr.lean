/- TreeSeparators: plain facts, impl. -/
import Derived.Test.YtcpchdnhhjhpaaaTq
import Derived.Test.YtcpchdnhhjhpaaaY10
import Derived.Test.YtcpchdnhhjhpaaaH8
import Derived.Test.YtcpchdnhhjhpaaaS1
import Derived.Shelf.Slices.In.SortNone
import Derived.Deep.RegionHeld3
namespace Go.Proofs.Ytcpchdnhhjhpaaa
set_option linter.unusedVariables false
set_option linter.unusedSimpArgs false
open Go.RowKit Go.Shelf Go.Sort

theorem ownCompact {B : Nat} {w : World} {v : Value} {l : List Int} (h : OwnI B w v l) (hl : l.length ≤ 1048576) :
    Calls Try.prog 117 #[v] w fun e w' => ∃ u, e = .returned u ∧ OwnI B w' u (Lib.compact l) ∧ w.grownBy w' v.ownBlock := by
  obtain ⟨h0, h1, h2⟩ := h
  have hmem : ∀ x ∈ Lib.compact l, x ∈ l := fun x hx => by
    have hx' : x ∈ ((List.range l.length).filter (Lib.keeps l.toArray)).map (l.toArray[·]!) := hx
    rw [List.mem_map] at hx'
    obtain ⟨j, hj, rfl⟩ := hx'
    have hjl : j < l.length := List.mem_range.1 (List.mem_filter.1 hj).1
    rw [getElem!_pos _ j (by simpa using hjl)]
    simp
  rcases h2 with ⟨rfl, hn⟩ | ⟨g, cap, cur, rfl, hg, hk, hl', hm, hs, ht⟩
  · have hl0 : l = [] := List.eq_nil_of_length_eq_zero hn
    subst hl0
    refine (Try.slices_Compact_int_empty none 0 w).mono ?_
    rintro e w' ⟨rfl, rfl⟩
    exact ⟨_, rfl, ⟨inI64_nil, rfl, .inl ⟨rfl, rfl⟩⟩, World.grownBy.refl _ _⟩
  · have ht' : cur.toList.take l.length = l.map (Value.int .i64) := by simpa [iv] using ht
    have hcl := Lib.compact_length_le l
    obtain ⟨T, hT⟩ : ∃ T, T = Lib.compact l ++ List.replicate (l.length - (Lib.compact l).length) 0 := ⟨_, rfl⟩
    have hTl : T.length = l.length := by rw [hT]; simp; omega
    refine (Try.slices_Compact_int g 0 cap l w (holds_of_blockI hk ht') (by omega) hl').mono ?_
    rintro e w' ⟨rfl, n, rfl⟩
    rw [← hT]
    refine ⟨_, rfl, ⟨inI64_sub h0 hmem, by simp [iv], .inr ⟨g, cap, putCells (Value.int .i64) 0 T.toArray cur, rfl, hg, ?_, by omega, hm, by simp [putCells, hs], ?_⟩⟩, ?_⟩
    · have h5 := heap_sortedI (n := n) (os := #[]) T.toArray hk
      rw [grow_empty] at h5
      exact h5
    · have h5 := take_putCellsI cur T (by omega)
      have h6 := congrArg (List.take (Lib.compact l).length) h5
      rw [List.take_take, Nat.min_eq_left (by omega), hT, List.map_append, List.take_left' (by simp)] at h6
      rw [Nat.mul_one, hT]
      exact h6
    · have h5 := grownBy_sortedI (w := w) (g := g) (n := n) (os := #[]) T.toArray
      rw [grow_empty] at h5
      exact h5

theorem sortNone (p : Option Addr) (cap : Nat) (w : World) : Calls Try.prog 116 #[.slice p 0 cap] w fun e w' => e = .returned (.tuple #[]) ∧ w' = w := Any.slices_Sort_int_none Try.lays189 p cap w

/-- What a bag has in common with its parent's. -/
def sepX (l m : List Int) (i : Nat) : Int := bits .and .i64 (nth l (i + 1)) (nth l (nth m (i + 1)).toNat)

def sepR (l m : List Int) : List Int := if TreeP l m then sortL (dedF (sepX l m) (l.length - 1)) else []

def sepT (l m : List Int) (i : Nat) : List Int := (List.range i).map (sepX l m)

theorem sepT_succ (l m : List Int) (i : Nat) : sepT l m (i + 1) = sepT l m i ++ [sepX l m i] := by simp [sepT, List.range_succ]

theorem sepT_length (l m : List Int) (i : Nat) : (sepT l m i).length = i := by simp [sepT]

theorem sepX_facts {l m : List Int} (h : TreeP l m) {i : Nat} (hi : i + 1 < l.length) : ∃ A B : Nat, nth l (i + 1) = (A : Int) ∧ nth l (nth m (i + 1)).toNat = (B : Int) ∧ A < 128 ∧ B < 128 ∧ ∃ k : Nat, nth m (i + 1) = (k : Int) ∧ k < i + 1 ∧ sepX l m i = ((A &&& B : Nat) : Int) ∧ A &&& B < 128 := by
  obtain ⟨⟨a0, a1⟩, -, a2⟩ := h.2.2 (i + 1) hi
  obtain ⟨a3, a4⟩ := a2 (by omega)
  obtain ⟨k, hk⟩ : ∃ k : Nat, nth m (i + 1) = (k : Int) := ⟨(nth m (i + 1)).toNat, by omega⟩
  rw [hk, Int.toNat_natCast]
  obtain ⟨⟨b0, b1⟩, -, -⟩ := h.2.2 k (by omega)
  obtain ⟨A, hA⟩ : ∃ A : Nat, nth l (i + 1) = (A : Int) := ⟨(nth l (i + 1)).toNat, by omega⟩
  obtain ⟨B, hB⟩ : ∃ B : Nat, nth l k = (B : Int) := ⟨(nth l k).toNat, by omega⟩
  refine ⟨A, B, hA, hB, by omega, by omega, k, rfl, by omega, ?_, Nat.lt_of_le_of_lt Nat.and_le_left (by omega)⟩
  unfold sepX
  rw [hk, Int.toNat_natCast, hA, hB, (bits_nat A B (by omega) (by omega)).1]

theorem common_is (A B : Nat) (hA : A < 128) (hB : B < 128) (w : World) :
    Calls Try.prog 115 #[.agg #[.int .i64 A], .agg #[.int .i64 B]] w fun e w' => e = .returned (.int .i64 ((A &&& B : Nat) : Int)) ∧ Below w.heap.size w w' := by
  have e1 : bits .and .i64 (A : Int) (B : Int) = ((A &&& B : Nat) : Int) := (bits_nat A B hA hB).1
  obtain ⟨C, hC⟩ : ∃ C, C = A &&& B := ⟨_, rfl⟩
  rw [← hC] at e1 ⊢
  clear hC
  go_enter Try.func115, Try.ntmps115
  go_wp2
  go_ret
  exact ⟨rfl, ((Below.refl _ w).alloc (Nat.le_refl _) _).alloc (by simp) _⟩

set_option maxHeartbeats 4000000 in
set_option maxRecDepth 100000 in
theorem implTreeSep (v u : Value) (l m : List Int) (w : World) (h : Ints w v l) (g : Ints w u m) (hl : l.length ≤ 1048576) (hm : m.length ≤ 1048576) :
    Calls Try.prog 58 #[.agg #[v, u]] w (GetsI w.heap.size w (sepR l m)) := by
  obtain ⟨i0, hi, hz0, hz1', hz2⟩ := info_parts infoInt
  obtain ⟨ad, cap, rfl, -, -⟩ := h.form
  obtain ⟨bd, cap', rfl, -, -⟩ := g.form
  have HI := Lib.hid h
  have HJ := Lib.hid g
  obtain ⟨R, hR⟩ : ∃ R, R = sepR l m := ⟨_, rfl⟩
  have HR := Lib.hid hR
  rw [← hR]
  clear h g hR
  have hb0 : Below w.heap.size w (w.alloc (.cells #[.slice ad l.length cap, .slice bd m.length cap'] 58)) := (Below.refl _ w).alloc (Nat.le_refl _) _
  have F0 := Lib.hid hb0
  clear hb0
  go_enter Try.func58, Try.ntmps58
  go_wp2_with fail
  refine (implIsTree _ _ l m _ (HI.out.on F0.out) (HJ.out.on F0.out) hl hm).mono ?_
  rintro e w1 ⟨r, rfl, hr, hb⟩
  have HRT := Lib.hid hr
  have F1 := Lib.hid (F0.out.trans (hb.mono F0.out.size))
  have A1 := Lib.hid (show Box w.heap.size [.slice ad l.length cap, .slice bd m.length cap'] w1 from (Box.new w _ _).on hb)
  clear hr hb
  have x0 : w1.cell? ⟨w.heap.size, 0, none⟩ = some (.slice ad l.length cap) := A1.out.1 0 _ rfl
  have x1 : w1.cell? ⟨w.heap.size, 1, none⟩ = some (.slice bd m.length cap') := A1.out.1 1 _ rfl
  cases r with
  | false =>
    have HN := Lib.hid (show R = [] by rw [HR.out]; unfold sepR; rw [if_neg (fun h => absurd (HRT.out.2 h) (by decide))])
    go_wp2
    go_ret
    exact ⟨_, rfl, by rw [HN.out]; exact ⟨inI64_nil, rfl, .inl ⟨rfl, rfl⟩⟩, F1.out⟩
  | true =>
    have HT := Lib.hid (HRT.out.1 (by first | rfl | trivial))
    obtain ⟨⟨hl1, hl20⟩, hml, -⟩ := HT.out
    have HML := Lib.hid hml
    clear hml
    go_wp2_with fail
    refine (nodesOf_is _ _ l m _ (HI.out.on F1.out) (HJ.out.on F1.out) hl hm (by have := HML.out; omega)).mono ?_
    rintro e w2 ⟨gg, rfl, hg1, hpr, hb2⟩
    have F2 := Lib.hid (F1.out.trans (hb2.mono F1.out.size))
    have HPR := Lib.hid hpr
    clear hpr hb2 x0 x1
    by_cases h1 : l.length = 1
    · have HN := Lib.hid (show R = [] by
        rw [HR.out]
        unfold sepR
        rw [if_pos HT.out, h1]
        simp [dedF, sortL])
      have hb1 : (1 : Int) ≤ (l.length : Int) := by omega
      go_wp2
      go_loopw [3, 6, 15] (fun s _ x wr => s = .slice none 0 0 ∧ x = .int .i64 0 ∧ Below w.heap.size w wr) (fun _ _ _ _ => 0)
      case atStart => exact ⟨rfl, rfl, F2.out⟩
      case round =>
        obtain ⟨rfl, rfl, hbel⟩ := hrel
        have HBL := Lib.hid hbel
        clear hbel
        go_wp2_with fail
        refine (sortNone none 0 _).mono ?_
        rintro e w6 ⟨rfl, rfl⟩
        go_wp2_with fail
        refine (ownCompact (B := w6.heap.size) (l := []) ⟨inI64_nil, rfl, .inl ⟨rfl, rfl⟩⟩ (by simp)).mono ?_
        rintro e w7 ⟨u7, rfl, ho7, hg7⟩
        have HO7 := Lib.hid ho7
        have HB7 := Lib.hid (HBL.out.grown hg7 HBL.out.size (fun z hz => by cases hz))
        clear ho7 hg7
        go_wp2
        go_ret
        exact ⟨_, rfl, by rw [HN.out]; exact HO7.out.mono HBL.out.size, HB7.out⟩
    · obtain ⟨N, hN⟩ : ∃ N, N = l.length - 1 := ⟨_, rfl⟩
      have HNN := Lib.hid (show l.length = N + 1 by omega)
      have hb1 : (1 : Int) ≤ (l.length : Int) := by omega
      have hN20 : N ≤ 19 := by omega
      have hN1 : 1 ≤ N := by omega
      have HPX : Hid (∀ W, Below w2.heap.size w2 W → ∀ i, i < l.length → W.cell? ⟨gg, i * 2, none⟩ = some (.int .i64 (nth l i)) ∧ W.cell? ⟨gg, i * 2 + 1, none⟩ = some (.int .i64 (nth m i))) := fun W hW i hi => (HPR.out.on hW).1 i hi
      go_wp2
      rw [← hN]
      clear hN
      go_loopw [3, 6, 15] (fun s _ x wr => ∃ i : Nat, i ≤ N ∧ x = .int .i64 i ∧ Hid (OwnI w2.heap.size wr s (sepT l m i)) ∧ Below w2.heap.size w2 wr) (fun _ _ x _ => N - (intOf x).toNat)
      case atStart => exact ⟨0, by omega, rfl, Lib.hid (show OwnI _ _ _ (sepT l m 0) from ⟨inI64_nil, rfl, .inl ⟨rfl, rfl⟩⟩), Below.refl _ _⟩
      case round =>
        obtain ⟨i, hiN, rfl, HO, hbel⟩ := hrel
        have HBL := Lib.hid hbel
        have hzr : w2.heap.size ≤ wr.heap.size := hbel.size
        clear hbel
        by_cases hlt : i < N
        · obtain ⟨A, B, hA, hB, hA7, hB7, k, hk, hki, hsx, hs7⟩ := sepX_facts HT.out (i := i) (by have := HNN.out; omega)
          have c0 := ((HPX.out _ HBL.out) (i + 1) (by have := HNN.out; omega)).1
          have c1 := ((HPX.out _ HBL.out) (i + 1) (by have := HNN.out; omega)).2
          rw [hA] at c0
          rw [hk] at c1
          have ea : (i + 1) * 2 = 2 + i * 2 := by omega
          rw [ea] at c0 c1
          rw [hk, Int.toNat_natCast] at hB
          have hgl := HPR.out.2
          obtain ⟨C, hC⟩ : ∃ C, C = A &&& B := ⟨_, rfl⟩
          have HSX := Lib.hid (show sepT l m (i + 1) = sepT l m i ++ [(C : Int)] by rw [sepT_succ, hsx, hC])
          have HCM : Hid (∀ W, Calls Try.prog 115 #[.agg #[.int .i64 A], .agg #[.int .i64 B]] W fun e w' => e = .returned (.int .i64 (C : Int)) ∧ Below W.heap.size W w') := fun W => by rw [hC]; exact common_is A B hA7 hB7 W
          rw [← hC] at hs7
          have cB := ((HPX.out _ HBL.out) k (by have := HNN.out; omega)).1
          rw [hB] at cB
          have hkl : (k : Int) < (l.length : Int) := by have := HNN.out; omega
          have hk0 : (0 : Int) ≤ (k : Int) := by omega
          go_wp2
          obtain ⟨q, hq⟩ : ∃ q, q = wr.heap.size := ⟨_, rfl⟩
          obtain ⟨wA, hwA⟩ : ∃ z, z = wr.alloc (.cells #[.int .i64 A, .int .i64 k] 120) := ⟨_, rfl⟩
          have hzA : wA.heap.size = q + 1 := by rw [hwA, hq]; simp
          have HBA := Lib.hid (show Below wr.heap.size wr wA by rw [hwA]; exact (Below.refl _ _).alloc (Nat.le_refl _) _)
          have d0 : wA.cell? ⟨q, 0, none⟩ = some (.int .i64 A) := by rw [hwA, hq]; simp [go_sem]
          have d1 : wA.cell? ⟨q, 1, none⟩ = some (.int .i64 k) := by rw [hwA, hq]; simp [go_sem]
          have d2 : wA.cell? ⟨gg, k * 2, none⟩ = some (.int .i64 B) := (HBA.out.cell (p := ⟨gg, k * 2, none⟩) (by show gg < wr.heap.size; omega)).trans cB
          have HOA := Lib.hid (HO.out.on HBA.out)
          have HXX : Hid (∀ W, Below wA.heap.size wA W → W.cell? ⟨q, 0, none⟩ = some (.int .i64 A) ∧ W.cell? ⟨q, 1, none⟩ = some (.int .i64 k) ∧ W.cell? ⟨gg, k * 2, none⟩ = some (.int .i64 B)) := fun W hW =>
            ⟨(hW.cell (p := ⟨q, 0, none⟩) (by show q < _; omega)).trans d0, (hW.cell (p := ⟨q, 1, none⟩) (by show q < _; omega)).trans d1, (hW.cell (p := ⟨gg, k * 2, none⟩) (by show gg < _; omega)).trans d2⟩
          rw [← hwA, ← hq]
          have hzA2 : w2.heap.size ≤ wA.heap.size := by omega
          have hll : (sepT l m i).length + [(C : Int)].length ≤ 1000000000 := by rw [sepT_length]; simp; omega
          have HRQ : Hid (∀ z, u3.ownBlock = some z → z ≠ q ∧ z ≠ gg) := fun z hz => by
            have := HO.out.lt z hz
            omega
          have HZA := Lib.hid hzA
          clear hwA hC hA hB hk hsx ea c0 c1 cB hq hzA
          go_region_held3 (fun w' => w'.cell? ⟨q, 0, none⟩ = some (.int .i64 A) ∧ w'.cell? ⟨q, 1, none⟩ = some (.int .i64 k) ∧ w'.cell? ⟨gg, k * 2, none⟩ = some (.int .i64 B)) (first | go_keep | exact HXX.out _ (Below.refl _ _).drew | exact HS5.out | exact HXX.out _ HB4.out)
            (first
              | (go_at_call 115
                 refine (HCM.out _).mono ?_
                 rintro e w4 ⟨rfl, hb4⟩
                 have HB4 := Lib.hid (show Below wA.heap.size wA w4 from (by first | exact hb4 | exact (Below.refl _ _).drew.trans hb4))
                 have hz4 : w2.heap.size ≤ w4.heap.size := (by have := HB4.out.size; omega)
                 clear hb4)
              | (refine step_append_ints (by rfl) (.tmp 19) (.tmp 29) 22 (by rfl) w2.heap.size i0 Try.underlying22 hi hz0 hz1' hz2 _ (sepT l m i) (by rfl) (by first | exact (HOA.out.on HB4.out).alloc _) _ [(C : Int)] (by rfl) (by first | exact (OwnI.single (B := w2.heap.size) (w := w4) hz4 (by omega) (by omega)).ints) (.inr ⟨_, _, rfl⟩) hll (by first | exact hz4 | (simp; omega)) ?_
                 intro v5 w5 ho5 hg5 hn5
                 have HO5 := Lib.hid (show OwnI w2.heap.size w5 v5 (sepT l m (i + 1)) by rw [HSX.out]; exact ho5)
                 have HB5 := Lib.hid (show Below w2.heap.size wA w5 from ((HB4.out.mono hzA2).alloc hz4 (.cells #[.int .i64 (C : Int)] 3)).grown hg5 (by simp; omega) (fun z hz => ((HOA.out.on HB4.out).lt z hz).1))
                 have HS5 := Lib.hid (show w5.cell? ⟨q, 0, none⟩ = some (.int .i64 A) ∧ w5.cell? ⟨q, 1, none⟩ = some (.int .i64 k) ∧ w5.cell? ⟨gg, k * 2, none⟩ = some (.int .i64 B) from (by
                   have z := HXX.out _ HB4.out
                   have e1 := HB4.out.size
                   have e2 := HZA.out
                   exact ⟨((gcell hg5).1 q 0 (by simp; omega) (fun e => (HRQ.out q e.symm).1 rfl)).trans ((World.cell?_alloc_lt w4 _ ⟨q, 0, none⟩ (by show q < _; omega)).trans z.1), ((gcell hg5).1 q 1 (by simp; omega) (fun e => (HRQ.out q e.symm).1 rfl)).trans ((World.cell?_alloc_lt w4 _ ⟨q, 1, none⟩ (by show q < _; omega)).trans z.2.1), ((gcell hg5).1 gg _ (by simp; omega) (fun e => (HRQ.out gg e.symm).2 rfl)).trans ((World.cell?_alloc_lt w4 _ ⟨gg, k * 2, none⟩ (by show gg < _; omega)).trans z.2.2)⟩))
                 clear ho5 hg5 hn5))
          all_goals
            go_wp2
            go_roundw
            case rel => exact ⟨i + 1, by omega, by go_num, HO5.out, (HBL.out.trans (HBA.out.mono hzr)).trans HB5.out⟩
            case measure => simp [intOf]; omega
        · obtain rfl : i = N := by omega
          have HSL := Lib.hid (sepT_length l m i)
          rcases HO.out.form with ⟨-, hnil⟩ | ⟨g7, cap7, rfl, hgb, -⟩
          · have := HSL.out; rw [hnil] at this; simp at this; omega
          · have HRS := Lib.hid (show R = Lib.compact (sortL (sepT l m i)) by
              rw [HR.out]
              unfold sepR
              rw [if_pos HT.out, show l.length - 1 = i by have := HNN.out; omega]
              exact (comp_sort (sepX l m) i).symm)
            have hsl : (sepT l m i).length ≤ 1048576 := by rw [HSL.out]; omega
            have HSO := Lib.hid (ownSort HO.out hsl ⟨g7, cap7, rfl⟩)
            have HCO : Hid (∀ W u, OwnI w2.heap.size W u (sortL (sepT l m i)) → Calls Try.prog 117 #[u] W fun e w' => ∃ u', e = .returned u' ∧ OwnI w2.heap.size w' u' (Lib.compact (sortL (sepT l m i))) ∧ W.grownBy w' u.ownBlock) := fun W u hO => ownCompact hO (by rw [sortL_length]; omega)
            rw [← HRS.out] at HCO
            obtain ⟨T, hT⟩ : ∃ T, T = sepT l m i := ⟨_, rfl⟩
            rw [← hT] at HSO HCO HO hsl ⊢
            clear hT
            go_wp2_with fail
            refine HSO.out.mono ?_
            rintro e w6 ⟨rfl, ho6, hg6⟩
            have HO6 := Lib.hid ho6
            have HB6 := Lib.hid (HBL.out.grown hg6 hzr (fun z hz => (HO.out.lt z hz).1))
            clear ho6 hg6
            go_wp2_with fail
            refine (HCO.out _ _ HO6.out).mono ?_
            rintro e w7 ⟨u7, rfl, ho7, hg7⟩
            have HO7 := Lib.hid ho7
            have HB7 := Lib.hid (HB6.out.grown hg7 HB6.out.size (fun z hz => (HO6.out.lt z hz).1))
            clear ho7 hg7
            go_wp2
            go_ret
            exact ⟨_, rfl, HO7.out.mono F2.out.size, F2.out.trans (HB7.out.mono F2.out.size)⟩

end Go.Proofs.Ytcpchdnhhjhpaaa
