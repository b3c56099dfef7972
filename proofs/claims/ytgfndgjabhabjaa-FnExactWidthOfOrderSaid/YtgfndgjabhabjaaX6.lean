/- FillOf: the implementation's. -/
import Derived.Test.YtgfndgjabhabjaaX4
import Derived.Test.YtgfndgjabhabjaaX2
import Derived.Test.YtgfndgjabhabjaaM3
import Derived.Test.YtgfndgjabhabjaaOe
import Derived.Deep.CutRange
namespace Go.Proofs.Ytgfndgjabhabjaa
set_option linter.unusedVariables false
set_option linter.unusedSimpArgs false
open Go.RowKit

/-- The new edges when all vertices of the order have been eliminated. -/
def fillR (n : Int) (lg l : List Int) : List (List Int) := if OrdP n lg l then (edgesR n (adjL lg.length (fillP lg.length (edB lg) l l.length))).filter (notQ (edB lg)) else []

theorem fill_bounds (n : Int) (lg l : List Int) : (fillR n lg l).length ≤ 49 ∧ tot (fillR n lg l) ≤ 98 := by
  unfold fillR
  split
  · exact filter_bounds _ _ _
  · exact ⟨by simp, by simp [tot]⟩

theorem grownBy_setCellN (W : World) (b k : Nat) (v : Value) : W.grownBy (W.setCell ⟨b, k, none⟩ v) (some b) :=
  ⟨rfl, rfl, rfl, (KeepsWalks.setCell W _ v).size, fun j _ hj => Below.heap_setCell _ _ _ j (fun e => hj (by rw [e]))⟩

theorem andNot_bits {a b : Nat} (ha : a < 128) (hb : b < 128) : bits .andNot .i64 (a : Int) (b : Int) = ((a &&& (127 ^^^ b) : Nat) : Int) := by
  have : ∀ (a b : Fin 128), bits .andNot .i64 ((a.val : Nat) : Int) ((b.val : Nat) : Int) = ((a.val &&& (127 ^^^ b.val) : Nat) : Int) := by decide +kernel
  exact this ⟨a, ha⟩ ⟨b, hb⟩

/-- The edges when the rows of those below k have lost what Q has. -/
def lessK (P Q : Nat → Nat → Bool) (k i j : Nat) : Bool := P i j && !(decide (i < k) && Q i j)

theorem lessK_zero (n : Nat) (P Q : Nat → Nat → Bool) : adjL n (lessK P Q 0) = adjL n P := adjL_congr n _ _ fun i _ j _ => by simp [lessK]

theorem lessK_all (n : Nat) (P Q : Nat → Nat → Bool) : adjL n (lessK P Q n) = adjL n (diffP P Q) := adjL_congr n _ _ fun i hi j _ => by simp [lessK, diffP, hi]

theorem lessK_row {n : Nat} (hn : n ≤ 7) (P Q : Nat → Nat → Bool) {k : Nat} (hk : k < n) :
    ∃ A B R : Nat, nth (adjL n (lessK P Q k)) k = (A : Int) ∧ A < 128 ∧ rowV (Q k) n = (B : Int) ∧ B < 128 ∧ bits .andNot .i64 (A : Int) (B : Int) = (R : Int) ∧ R < 128 ∧ (adjL n (lessK P Q k)).set k (R : Int) = adjL n (lessK P Q (k + 1)) := by
  have h7 := two_le n hn
  obtain ⟨A, hA, hA2, hAb⟩ := rowV_nat (lessK P Q k k) n
  obtain ⟨B, hB, hB2, hBb⟩ := rowV_nat (Q k) n
  have hR2 : A &&& (127 ^^^ B) < 2 ^ n := Nat.lt_of_le_of_lt Nat.and_le_left hA2
  refine ⟨A, B, A &&& (127 ^^^ B), by rw [adjL_nth n _ k hk, hA], by omega, hB, by omega, andNot_bits (by omega) (by omega), by omega, ?_⟩
  refine list_ext_nth (by simp [adjL_length]) fun i hi => ?_
  rw [List.length_set, adjL_length] at hi
  rw [nth_set _ _ _ _ (by rw [adjL_length]; exact hk), adjL_nth n _ i hi]
  by_cases hik : i = k
  · subst hik
    rw [if_pos rfl, adjL_nth n _ i hk]
    refine nat_rowV hR2 (p := lessK P Q (i + 1) i) fun j hj => ?_
    have h127 : (127 : Nat).testBit j = true := by
      have hj7 : j < 7 := by omega
      have : ∀ j : Fin 7, (127 : Nat).testBit j.val = true := by decide
      exact this ⟨j, hj7⟩
    rw [Nat.testBit_and, Nat.testBit_xor, hAb j hj, hBb j hj, h127]
    unfold lessK
    cases P i j <;> cases Q i j <;> simp
  · rw [if_neg hik, adjL_nth n _ i hi]
    refine rowV_congr _ _ n fun j hj => ?_
    unfold lessK
    have : decide (i < k) = decide (i < k + 1) := decide_eq_decide.2 (by omega)
    rw [this]

theorem edges_less {n : Int} {lg l : List Int} (h : OrdP n lg l) : edgesR n (adjL lg.length (diffP (fillP lg.length (edB lg) l l.length) (edB lg))) = fillR n lg l := by
  have hg := h.graph
  have hn := h.len
  have h1 : 1 ≤ lg.length := by have := hg.1; omega
  have hs := fillP_sym (edB_sym' hg) l l.length
  have hG : IsG n (adjL lg.length (diffP (fillP lg.length (edB lg) l l.length) (edB lg))) := by
    rw [hn.2.2]
    exact adj_graph h1 hn.2.1 (diffP_sym hs (edB_sym' hg))
  have hG2 := (fill_ord h l.length).1
  unfold fillR
  rw [if_pos h]
  unfold edgesR
  rw [if_pos hG, if_pos hG2, adjL_length, adjL_length]
  exact allE_diff lg.length _ _ lg.length (Nat.le_refl _)

theorem row_edB {n : Int} {lg : List Int} (hg : IsG n lg) {k : Nat} (hk : k < lg.length) : nth lg k = rowV (edB lg k) lg.length := by
  conv => lhs; rw [adj_of hg]
  exact adjL_nth _ _ k hk

set_option maxHeartbeats 4000000 in
set_option maxRecDepth 100000 in
theorem implFill (n : Int) (v vl : Value) (lg l : List Int) (w : World) (h : Ints w v lg) (hl : Ints w vl l) (hlen : l.length ≤ 1048576) :
    Calls Try.prog 30 #[.agg #[.int .i64 n, v], vl] w (fun e w' => ∃ v, e = .returned (.tuple #[v, .bool (decide (OrdP n lg l))]) ∧ OwnII w.heap.size w'.heap.size w' v (fillR n lg l) ∧ Below w.heap.size w w') := by
  obtain ⟨a, cap, rfl, -, -⟩ := h.form
  obtain ⟨al, capl, rfl, hcl, hml⟩ := hl.form
  have HA := argG' (T := 44) (n := n) h
  have HI := Lib.hid h
  have HL := Lib.hid hl
  unfold maxLen at hml
  clear h hl
  obtain ⟨D, hD⟩ : ∃ D, D = decide (OrdP n lg l) := ⟨_, rfl⟩
  obtain ⟨R, hR⟩ : ∃ R, R = fillR n lg l := ⟨_, rfl⟩
  have HD := Lib.hid hD
  have HR := Lib.hid hR
  rw [← hD, ← hR]
  clear hD hR
  go_enter Try.func30, Try.ntmps30
  go_wp2_with fail
  refine (implIsOrder n _ _ lg l _ (HI.out.alloc _) (HL.out.alloc _) hlen).mono ?_
  rintro e w1 ⟨r, rfl, hr, hb⟩
  have HRR := Lib.hid hr
  have HB1 := Lib.hid (hb.mono (B' := w.heap.size + 1) (by simp))
  clear hb hr
  obtain ⟨c0, c1, cI, cB, cz⟩ := HA.out _ HB1.out
  have HCI := Lib.hid cI
  have HCB := Lib.hid cB
  clear cI cB
  cases r with
  | false =>
    have HN := Lib.hid (show ¬ OrdP n lg l from fun h => absurd (HRR.out.2 h) (by decide))
    have HDF := Lib.hid (show D = false by rw [HD.out]; exact decide_eq_false HN.out)
    have HRE := Lib.hid (show R = [] by rw [HR.out]; unfold fillR; rw [if_neg HN.out])
    go_wp2
    refine bodyPost_ret (v := .tuple #[.slice none 0 0, .bool false]) (by simp [results, Try.results30, go_sem]) rfl ?_
    rw [HDF.out, HRE.out]
    exact ⟨_, rfl, ⟨[], OwnV.nil _ _ _⟩, HCB.out⟩
  | true =>
    have HO := Lib.hid (HRR.out.1 (by first | rfl | trivial))
    have HDF := Lib.hid (show D = true by rw [HD.out]; exact decide_eq_true HO.out)
    have HRE := Lib.hid (show R = fillR n lg l from HR.out)
    obtain ⟨hll, hm7, hnl⟩ := HO.out.len
    obtain ⟨N, hN⟩ : ∃ N, N = lg.length := ⟨_, rfl⟩
    have HLN := Lib.hid (show l.length = N ∧ N = lg.length by omega)
    have hN7 : N ≤ 7 := by omega
    have HNN := Lib.hid (show n = (N : Int) by omega)
    have hl1 : l.length ≤ N := by omega
    have hl2 : N ≤ l.length := by omega
    have hg1 : lg.length ≤ N := by omega
    have hg2 : N ≤ lg.length := by omega
    clear hll hm7 hnl hN
    go_wp2_with fail
    refine (copyOfGraph_any n _ lg _ HCI.out (by omega)).mono ?_
    rintro e w2 ⟨vc, rfl, ho, hb⟩
    obtain ⟨g, capg, hv, hgB, hgw, -, hgm, -, -⟩ : ∃ g cp, vc = .slice (some ⟨g, 0, none⟩) lg.length cp ∧ w1.heap.size ≤ g ∧ g < w2.heap.size ∧ lg.length ≤ cp ∧ cp ≤ maxLen ∧ True ∧ True := by
      rcases ho.form with ⟨-, h9⟩ | ⟨g, cp, h1, h2, h3, h4, h5, -, -⟩
      · have := HO.out.graph.1; have := HO.out.graph.2.2.1; rw [h9] at this; simp at this; omega
      · exact ⟨g, cp, h1, h2, h3, h4, h5, trivial, trivial⟩
    subst hv
    have HOC := Lib.hid ho
    have HB2 := Lib.hid (HB1.out.trans (hb.mono cz))
    have HZ1 := Lib.hid (show w.heap.size + 1 ≤ w1.heap.size from cz)
    unfold maxLen at hgm
    obtain ⟨q, hq⟩ : ∃ q, q = w2.heap.size := ⟨_, rfl⟩
    obtain ⟨w3, hw3⟩ : ∃ w3, w3 = w2.alloc (.cells #[.int .i64 n, .slice (some ⟨g, 0, none⟩) lg.length capg] 44) := ⟨_, rfl⟩
    have HOW := Lib.hid (show OwnI w1.heap.size w3 (.slice (some ⟨g, 0, none⟩) N capg) (adjL N (fillP N (edB lg) l 0)) by
      show OwnI w1.heap.size w3 (.slice (some ⟨g, 0, none⟩) N capg) (adjL N (edB lg))
      rw [HLN.out.2, ← adj_of HO.out.graph, hw3]
      exact ho.alloc _)
    have HBX := Lib.hid (show BoxG q (N : Int) (.slice (some ⟨g, 0, none⟩) N capg) w3 by
      rw [← HNN.out, HLN.out.2, hw3, hq]; exact BoxG.new w2 44 n (.slice (some ⟨g, 0, none⟩) lg.length capg) ⟨_, _, _, rfl⟩)
    have hb3 : Below w2.heap.size w2 w3 := by rw [hw3]; exact (Below.refl _ _).alloc (Nat.le_refl _) _
    have HB3 := Lib.hid (HB2.out.trans (hb3.mono (by have := hb.size; omega)))
    have HGQ := Lib.hid (show g ≠ q ∧ w1.heap.size ≤ g ∧ g < q ∧ q < w3.heap.size by rw [hq]; exact ⟨by omega, hgB, hgw, by rw [hw3]; simp⟩)
    clear ho hb hb3 c0 c1 cz hgB hgw
    obtain ⟨c0, c1, cI, cB, cz⟩ := HA.out _ HB3.out
    have HCB3 := Lib.hid cB
    clear cI cB
    go_upto_region 4 with fail
    rw [← hw3, ← hq]
    clear hw3 hq c0 c1 cz
    go_wp2
    obtain ⟨Q, hQ⟩ : ∃ Q, Q = edB lg := ⟨_, rfl⟩
    have HQE := Lib.hid hQ
    rw [← hQ] at HOW
    clear hQ
    have hgm' := hgm
    go_loopw [19] (fun c wr => ∃ k : Nat, k ≤ l.length ∧ c = .int .i64 (k : Int) ∧ Hid (BoxG q (N : Int) (.slice (some ⟨g, 0, none⟩) N capg) wr) ∧ Hid (OwnI w1.heap.size wr (.slice (some ⟨g, 0, none⟩) N capg) (adjL N (fillP N Q l k))) ∧ Hid (w3.grownBy wr (some g))) (fun c _ => l.length - (intOf c).toNat)
    case atStart => exact ⟨0, by omega, rfl, HBX.out, HOW.out, World.grownBy.refl _ _⟩
    case round =>
      clear HBX HOW
      obtain ⟨k, hk, rfl, HBX, HOW, HG⟩ := hrel
      have HBW := Lib.hid (HB3.out.grown HG.out (by have := HB3.out.size; simpa using this) (fun j e => by cases e; have := HGQ.out.2.1; have := HZ1.out; omega))
      obtain ⟨c0, c1, cI, cB, cz⟩ := HA.out _ HBW.out
      have HCB := Lib.hid cB
      clear cI cB
      by_cases hlt : k < l.length
      · obtain ⟨b2, off2, capl', hv, hc2, hmx2, hbk2, hcell2⟩ := HL.out.pos (by omega)
        simp only [Value.slice.injEq] at hv
        obtain ⟨rfl, -, rfl⟩ := hv
        have e1 := (HCB.out.cell (p := ⟨b2, off2 + k, none⟩) hbk2).trans (hcell2 k hlt)
        obtain ⟨x, hx⟩ : ∃ x, x = nth l k := ⟨_, rfl⟩
        rw [← hx] at e1
        obtain ⟨X, hX, hX2, hXP⟩ : ∃ X : Nat, laterR (N : Int) (adjL N (fillP N Q l k)) l x = (X : Int) ∧ X < 2 ^ N ∧ fillP N Q l (k + 1) = joinP (fillP N Q l k) X := by
          obtain ⟨h1, h2⟩ := fill_late HO.out (k := k) hlt
          rw [hx, show (N : Int) = n from HNN.out.symm, HLN.out.2, HQE.out]
          exact ⟨_, h1, h2, rfl⟩
        have HX := Lib.hid hX
        have HX2 := Lib.hid hX2
        have HXP := Lib.hid hXP
        obtain ⟨d0, d1, dz⟩ := HBX.out
        have HLW := Lib.hid (HL.out.on HCB.out)
        clear hcell2 hx hX hX2 hXP c0 c1 cz
        go_wp2_with fail
        refine (implLater (N : Int) _ _ (adjL N (fillP N Q l k)) l x _ HOW.out.ints HLW.out hlen).mono ?_
        rintro e w5 ⟨rfl, hb⟩
        rw [HX.out]
        have HBX5 := Lib.hid (HBX.out.keep (below_grown hb) (by simp))
        have HOW5 := Lib.hid (HOW.out.on hb)
        have HG5 := Lib.hid (grown_trans HG.out (show wr.grownBy w5 (some g) from ⟨hb.os, hb.tape, hb.output, hb.size, fun j hj _ => hb.block j hj⟩))
        clear hb d0 d1 dz e1
        go_wp2_with fail
        refine (implJoin w1.heap.size N q g capg (fillP N Q l k) X w5 hN7 HX2.out HBX5.out HOW5.out HGQ.out.1).mono ?_
        rintro e w6 ⟨rfl, ho6, hg6⟩
        have HBX6 := Lib.hid (HBX5.out.keep hg6 (by simp; exact HGQ.out.1))
        have HOW6 := Lib.hid (show OwnI w1.heap.size w6 (.slice (some ⟨g, 0, none⟩) N capg) (adjL N (fillP N Q l (k + 1))) by rw [HXP.out]; exact ho6)
        have HG6 := Lib.hid (grown_trans HG5.out hg6)
        clear ho6 hg6
        go_wp2
        go_roundw
        case rel => exact ⟨k + 1, by omega, by go_num, HBX6.out, HOW6.out, HG6.out⟩
        case measure => simp [intOf]; omega
      · obtain rfl : k = l.length := by omega
        obtain ⟨P, hP⟩ : ∃ P, P = fillP N Q l l.length := ⟨_, rfl⟩
        have HPE := Lib.hid hP
        have HOW0 := Lib.hid (show OwnI w1.heap.size wr (.slice (some ⟨g, 0, none⟩) N capg) (adjL N (lessK P Q 0)) by rw [lessK_zero, hP]; exact HOW.out)
        clear hP hlt
        go_wp2
        clear c0 c1 cz
        go_loopw [32] (fun c wy => ∃ k : Nat, k ≤ N ∧ c = .int .i64 (k : Int) ∧ Hid (BoxG q (N : Int) (.slice (some ⟨g, 0, none⟩) N capg) wy) ∧ Hid (OwnI w1.heap.size wy (.slice (some ⟨g, 0, none⟩) N capg) (adjL N (lessK P Q k))) ∧ Hid (w3.grownBy wy (some g))) (fun c _ => N - (intOf c).toNat)
        case atStart => exact ⟨0, by omega, rfl, HBX.out, HOW0.out, HG.out⟩
        case round =>
          clear HBX HOW HOW0 HG HBW HCB
          obtain ⟨k, hk, rfl, HBX, HOW, HG⟩ := hrel
          have HBW := Lib.hid (HB3.out.grown HG.out (by have := HB3.out.size; simpa using this) (fun j e => by cases e; have := HGQ.out.2.1; have := HZ1.out; omega))
          have HCB := Lib.hid (HA.out _ HBW.out).2.2.2.1
          obtain ⟨d0, d1, dz⟩ := HBX.out
          by_cases hlt : k < N
          · obtain ⟨b2, off2, capl', hv, hc2, hmx2, hbk2, hcell2⟩ := HI.out.pos (by omega)
            simp only [Value.slice.injEq] at hv
            obtain ⟨rfl, -, rfl⟩ := hv
            have e1 := (HCB.out.cell (p := ⟨b2, off2 + k, none⟩) hbk2).trans (hcell2 k (by omega))
            obtain ⟨A, B, Rr, hA, hA7, hB, hB7, hAB, hR7, hset⟩ := lessK_row hN7 P Q hlt
            have hrow : nth lg k = (B : Int) := by rw [← hB, HQE.out, HLN.out.2]; exact row_edB HO.out.graph (by omega)
            rw [hrow] at e1
            rcases HOW.out.form with ⟨h9, -⟩ | ⟨g9, cp9, h9, -, -, -, -, hcell9, hfr9⟩
            · cases h9
            simp only [Value.slice.injEq, Option.some.injEq, Addr.mk.injEq] at h9
            obtain ⟨⟨rfl, -, -⟩, -, -⟩ := h9
            have f0 := hcell9 k (by rw [adjL_length]; exact hlt)
            rw [hA] at f0
            have f1 := hfr9 k
            unfold maxLen at hmx2
            have hOS := HOW.out
            have HOS := Lib.hid (show OwnI w1.heap.size (wr.setCell ⟨g, k, none⟩ (.int .i64 (Rr : Int))) (.slice (some ⟨g, 0, none⟩) N capg) (adjL N (lessK P Q (k + 1))) by
              have h1 : OwnI w1.heap.size wr (.slice (some ⟨g, 0, none⟩) (adjL N (lessK P Q k)).length capg) (adjL N (lessK P Q k)) := by rw [adjL_length]; exact hOS
              have h2 := h1.set k (Rr : Int) (by omega) (by omega)
              rw [adjL_length, hset] at h2
              exact h2.1)
            have hgs := grownBy_setCellN wr g k (.int .i64 (Rr : Int))
            have HBXS := Lib.hid (HBX.out.keep hgs (by simp; exact HGQ.out.1))
            have HGS := Lib.hid (grown_trans HG.out hgs)
            clear hcell2 hcell9 hfr9 hOS hA hB hset hrow hgs
            go_wp2
            go_roundw
            case rel => exact ⟨k + 1, by omega, by go_num, HBXS.out, HOS.out, HGS.out⟩
            case measure => simp [intOf]; omega
          · obtain rfl : k = N := by omega
            have HE := Lib.hid (show edgesR (k : Int) (adjL k (lessK P Q k)) = R by
              rw [lessK_all, HRE.out, ← edges_less HO.out, show (k : Int) = n from HNN.out.symm, HPE.out, HQE.out, HLN.out.2])
            have HW1 := Lib.hid (show w.heap.size ≤ wr.heap.size from HCB.out.size)
            go_wp2_with fail
            refine (implEdges (k : Int) _ (adjL k (lessK P Q k)) _ HOW.out.ints).mono ?_
            rintro e w5 ⟨ve, rfl, hII, hb⟩
            rw [HE.out] at hII
            have HII := Lib.hid hII
            have HBF := Lib.hid (HCB.out.trans (hb.mono HCB.out.size))
            clear hII hb d0 d1 dz
            go_wp2
            refine bodyPost_ret (v := .tuple #[ve, .bool true]) (by simp [results, Try.results30, go_sem]) rfl ?_
            rw [HDF.out]
            exact ⟨_, rfl, HII.out.mono HW1.out (Nat.le_refl _), HBF.out⟩

end Go.Proofs.Ytgfndgjabhabjaa
