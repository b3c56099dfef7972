/- OptionalEdges. -/
import Derived.Test.YtgfndgjabhabjaaPk
import Derived.Test.YtgfndgjabhabjaaY3
namespace Go.Proofs.Ytgfndgjabhabjaa
set_option linter.unusedVariables false
set_option linter.unusedSimpArgs false
open Go.RowKit

/-- The edges of the second graph that the first one lacks. -/
def optR (n0 : Int) (l0 : List Int) (n1 : Int) (l1 : List Int) : List (List Int) := if WithinP n0 l0 n1 l1 then (edgesR n1 l1).filter (notQ (edB l0)) else []

theorem edges_two (n : Int) (l : List Int) : ∀ x ∈ edgesR n l, x.length = 2 := fun x hx => by
  unfold edgesR at hx
  split at hx
  · obtain ⟨i, j, -, -, -, rfl⟩ := allE_mem hx
    rfl
  · cases hx

theorem filter_bounds (n : Int) (l : List Int) (q : List Int → Bool) : ((edgesR n l).filter q).length ≤ 49 ∧ tot ((edgesR n l).filter q) ≤ 98 := by
  have h1 := edgesR_length n l
  have h2 := List.length_filter_le q (edgesR n l)
  refine ⟨by omega, ?_⟩
  rw [tot_pairs _ fun x hx => edges_two n l x (List.mem_filter.1 hx).1]
  omega

theorem opt_bounds (n0 : Int) (l0 : List Int) (n1 : Int) (l1 : List Int) : (optR n0 l0 n1 l1).length ≤ 49 ∧ tot (optR n0 l0 n1 l1) ≤ 98 := by
  unfold optR
  split
  · exact filter_bounds _ _ _
  · exact ⟨by simp, by simp [tot]⟩

/-- What an edge of the list holds in memory. -/
theorem edge_cells {n : Int} {l : List Int} {lo : Nat} {W : World} {v : Value} {k : Nat} (hk : k < (edgesR n l).length) (h : OwnI lo W v (subL (edgesR n l) k)) : ∃ (b cap i j : Nat), i < j ∧ j < l.length ∧ j < 7 ∧ subL (edgesR n l) k = [(i : Int), (j : Int)] ∧ v = .slice (some ⟨b, 0, none⟩) 2 cap ∧ b < W.heap.size ∧ cap ≤ maxLen ∧ 2 ≤ cap ∧ W.cell? ⟨b, 0, none⟩ = some (.int .i64 i) ∧ W.cell? ⟨b, 1, none⟩ = some (.int .i64 j) := by
  obtain ⟨i, j, h1, h2, h3, h4⟩ := edges_mem hk
  rw [h4] at h
  rcases h.form with ⟨-, h9⟩ | ⟨b, cap, hv, hb, hc, hm, h5, h6, -⟩
  · simp at h9
  · exact ⟨b, cap, i, j, h1, h2, h3, h4, hv, hc, h5, by simpa using hm, by simpa [nth] using h6 0 (by simp), by simpa [nth] using h6 1 (by simp)⟩

theorem Only.thenZ {z : Nat} {w1 w2 w3 : World} {row : Option Nat} (h : Only z (z + 1) w1 w2) (hg : w2.grownBy w3 row) (hr : ∀ r, row = some r → r = z ∨ w1.heap.size ≤ r) : Only z (z + 1) w1 w3 :=
  ⟨hg.os.trans h.os, hg.tape.trans h.tape, hg.output.trans h.output, Nat.le_trans h.size hg.size, fun k hk hn => (hg.block k (Nat.lt_of_lt_of_le hk h.size) (fun e => by have := hr k e.symm; omega)).trans (h.block k hk hn)⟩

theorem Only.thenG0 {lo hi : Nat} {w1 w2 : World} (h : Only lo hi w1 w2) : Only lo hi w1 w2.drew := ⟨h.os, h.tape, h.output, h.size, h.block⟩

theorem OwnV.pickZ {lo hi B : Nat} {W : World} {vl v : Value} {vsL : List Value} {L : List (List Int)} (h : OwnV lo hi W vl vsL L) {js : List Nat} (hj : ∀ j ∈ js, j < L.length) (hnd : js.Nodup) (hB : B ≤ lo)
    (own : W.ownsRow B 22 1 v js.length (js.map (elt vsL))) : OwnII B W.heap.size W v (js.map (subL L)) := by
  obtain ⟨h1, h2, h3, h4, h5, h6⟩ := h
  exact OwnV.pick (lo := B) ⟨h1, Go.Joins.ownsRow_le h2 hB, fun i hi => (h3 i hi).mono hB, h4, h5, h6⟩ hj hnd (Nat.le_refl _) own

theorem Only.thenB {z : Nat} {w1 w2 w3 : World} (h : Only z (z + 1) w1 w2) (hb : Below w2.heap.size w2 w3) : Only z (z + 1) w1 w3 := h.trans (Only.of_below _ _ hb)

set_option maxHeartbeats 2000000 in
set_option maxRecDepth 100000 in
theorem implOptional (n0 n1 : Int) (v0 v1 : Value) (l0 l1 : List Int) (w : World) (h0 : Ints w v0 l0) (h1 : Ints w v1 l1) :
    Calls Try.prog 41 #[.agg #[.int .i64 n0, v0], .agg #[.int .i64 n1, v1]] w (fun e w' => ∃ v, e = .returned (.tuple #[v, .bool (decide (WithinP n0 l0 n1 l1))]) ∧ OwnII w.heap.size w'.heap.size w' v (optR n0 l0 n1 l1) ∧ Below w.heap.size w w') := by
  obtain ⟨a0, p0, rfl, -, -⟩ := h0.form
  obtain ⟨a1, p1, rfl, -, -⟩ := h1.form
  obtain ⟨i1, hj, hj0, hj1, hj2⟩ := info_parts infoInts
  have H0 := Lib.hid h0
  have H1 := Lib.hid h1
  clear h0 h1
  have F0 := Lib.hid (show Below w.heap.size w ((w.alloc (.cells #[.int .i64 n0, .slice a0 l0.length p0] 44)).alloc (.cells #[.int .i64 n1, .slice a1 l1.length p1] 44)) from ((Below.refl _ w).alloc (Nat.le_refl _) _).alloc (by simp) _)
  have A0 := Lib.hid (show Box w.heap.size [.int .i64 n0, .slice a0 l0.length p0] ((w.alloc (.cells #[.int .i64 n0, .slice a0 l0.length p0] 44)).alloc (.cells #[.int .i64 n1, .slice a1 l1.length p1] 44)) from (Box.new w _ _).keep (grown_alloc _ _ none) (by simp))
  have C0 := Lib.hid (show Box (w.heap.size + 1) [.int .i64 n1, .slice a1 l1.length p1] ((w.alloc (.cells #[.int .i64 n0, .slice a0 l0.length p0] 44)).alloc (.cells #[.int .i64 n1, .slice a1 l1.length p1] 44)) by have h := Box.new (w.alloc (.cells #[.int .i64 n0, .slice a0 l0.length p0] 44)) 44 [.int .i64 n1, .slice a1 l1.length p1]; simpa using h)
  obtain ⟨D, hD⟩ : ∃ D, D = decide (WithinP n0 l0 n1 l1) := ⟨_, rfl⟩
  obtain ⟨R, hR⟩ : ∃ R, R = optR n0 l0 n1 l1 := ⟨_, rfl⟩
  have HD := Lib.hid hD
  have HR := Lib.hid hR
  rw [← hD, ← hR]
  clear hD hR
  obtain ⟨w0, hw0⟩ : ∃ w0, w0 = ((w.alloc (.cells #[.int .i64 n0, .slice a0 l0.length p0] 44)).alloc (.cells #[.int .i64 n1, .slice a1 l1.length p1] 44)) := ⟨_, rfl⟩
  rw [← hw0] at F0 A0 C0
  have x0 : w0.cell? ⟨w.heap.size, 0, none⟩ = some (.int .i64 n0) := A0.out.1 0 _ rfl
  have x1 : w0.cell? ⟨w.heap.size, 1, none⟩ = some (.slice a0 l0.length p0) := A0.out.1 1 _ rfl
  have y0 : w0.cell? ⟨w.heap.size + 1, 0, none⟩ = some (.int .i64 n1) := C0.out.1 0 _ rfl
  have y1 : w0.cell? ⟨w.heap.size + 1, 1, none⟩ = some (.slice a1 l1.length p1) := C0.out.1 1 _ rfl
  go_enter Try.func41, Try.ntmps41
  go_wp2_with fail
  rw [← hw0]
  clear hw0 
  refine (implIncludes n1 n0 _ _ l1 l0 _ (H1.out.on F0.out) (H0.out.on F0.out)).mono ?_
  rintro e w1 ⟨r, rfl, hr, hb⟩
  have F1 := Lib.hid (F0.out.trans (hb.mono F0.out.size))
  have A1 := Lib.hid (A0.out.on hb)
  have C1 := Lib.hid (C0.out.on hb)
  have HRR := Lib.hid hr
  clear hr hb F0 A0 C0 x0 x1 y0 y1
  cases r with
  | false =>
    have HN := Lib.hid (show ¬ WithinP n0 l0 n1 l1 from fun h => absurd (HRR.out.2 h) (by decide))
    have HDF := Lib.hid (show D = false by rw [HD.out]; exact decide_eq_false HN.out)
    have HRE := Lib.hid (show R = [] by rw [HR.out]; unfold optR; rw [if_neg HN.out])
    go_wp2
    refine bodyPost_ret (v := .tuple #[_, .bool false]) (by simp [results, Try.results41, go_sem] <;> rfl) rfl ?_
    rw [HDF.out, HRE.out]
    exact ⟨_, rfl, ⟨[], OwnV.nil _ _ _⟩, F1.out⟩
  | true =>
    have HW := Lib.hid (HRR.out.1 (by first | rfl | trivial))
    have HDF := Lib.hid (show D = true by rw [HD.out]; exact decide_eq_true HW.out)
    have HRE := Lib.hid (show R = (edgesR n1 l1).filter (notQ (edB l0)) by rw [HR.out]; unfold optR; rw [if_pos HW.out])
    have x0 : w1.cell? ⟨w.heap.size, 0, none⟩ = some (.int .i64 n0) := A1.out.1 0 _ rfl
    have x1 : w1.cell? ⟨w.heap.size, 1, none⟩ = some (.slice a0 l0.length p0) := A1.out.1 1 _ rfl
    have y0 : w1.cell? ⟨w.heap.size + 1, 0, none⟩ = some (.int .i64 n1) := C1.out.1 0 _ rfl
    have y1 : w1.cell? ⟨w.heap.size + 1, 1, none⟩ = some (.slice a1 l1.length p1) := C1.out.1 1 _ rfl
    go_wp2_with fail
    refine (implEdges n1 _ l1 _ (H1.out.on F1.out)).mono ?_
    rintro e w2 ⟨vl, rfl, ⟨vs, hV⟩, hb⟩
    have HV := Lib.hid hV
    have F2 := Lib.hid (F1.out.trans (hb.mono F1.out.size))
    have A2 := Lib.hid (A1.out.on hb)
    have C2 := Lib.hid (C1.out.on hb)
    have HZ2 := Lib.hid (show w.heap.size ≤ w1.heap.size from F1.out.size)
    have O2 := Lib.hid (show w2.ownsRow w2.heap.size 22 1 (.slice none 0 0) 0 [] from World.ownsRow_nil _ _ _ _)
    have HBW := Lib.hid (show w1.heap.size ≤ w2.heap.size from hb.size)
    obtain ⟨L, hL⟩ : ∃ L, L = edgesR n1 l1 := ⟨_, rfl⟩
    have HL := Lib.hid hL
    rw [← hL] at HV HRE
    have hL49 : L.length ≤ 49 := by rw [hL]; exact edgesR_length n1 l1
    obtain ⟨al, capl, rfl, hml⟩ : ∃ a cap, vl = .slice a L.length cap ∧ cap ≤ maxLen := by
      rcases HV.out.form with ⟨rfl, e⟩ | ⟨g, cap, rfl, -, -, hm, -⟩
      · exact ⟨none, 0, by rw [e]; rfl, by unfold maxLen; omega⟩
      · exact ⟨_, cap, rfl, hm⟩
    unfold maxLen at hml
    clear hb hV hL x0 x1 y0 y1
    have x0 : w2.cell? ⟨w.heap.size, 0, none⟩ = some (.int .i64 n0) := A2.out.1 0 _ rfl
    have x1 : w2.cell? ⟨w.heap.size, 1, none⟩ = some (.slice a0 l0.length p0) := A2.out.1 1 _ rfl
    go_wp2
    go_loopw [6, 16] (fun s c wr => ∃ (k : Nat) (js : List Nat), k ≤ L.length ∧ c = .int .i64 k ∧ js.length ≤ k ∧ Hid (js = pickJ (notQ (edB l0)) L k) ∧ Hid (wr.ownsRow w2.heap.size 22 1 s js.length (js.map (elt vs))) ∧ Hid (Below w2.heap.size w2 wr)) (fun _ c _ => L.length - (intOf c).toNat)
    case atStart => exact ⟨0, [], by omega, rfl, by simp, rfl, O2.out, Below.refl _ _⟩
    case round =>
      clear O2 x0 x1
      obtain ⟨k, js, hk, rfl, hjl, HJ, HO, HBL⟩ := hrel
      have A3 := Lib.hid (A2.out.on HBL.out)
      have x0 : wr.cell? ⟨w.heap.size, 0, none⟩ = some (.int .i64 n0) := A3.out.1 0 _ rfl
      have x1 : wr.cell? ⟨w.heap.size, 1, none⟩ = some (.slice a0 l0.length p0) := A3.out.1 1 _ rfl
      by_cases hlt : k < L.length
      · rcases HV.out.form with ⟨-, hn⟩ | ⟨g, cap, hv, hg, -, -, hcell⟩
        · rw [hn] at hlt; simp at hlt
        simp only [Value.slice.injEq] at hv
        obtain ⟨rfl, -, rfl⟩ := hv
        have c1 : wr.cell? ⟨g, k, none⟩ = some (elt vs k) := (HBL.out.cell (p := ⟨g, k, none⟩) hg).trans (hcell k hlt)
        have hO := (HV.out.2.2.1 k hlt).on HBL.out
        obtain ⟨b, cb, i, j, hij, hjl1, hj7, hsub, hvb, hbl, hcb, hcb2, e0, e1⟩ := edge_cells (n := n1) (l := l1) (by rw [← HL.out]; exact hlt) (by rw [← HL.out]; exact hO)
        rw [hvb] at c1
        have HX := Lib.hid hvb
        have hll : j < l0.length := by
          have h1 := HW.out.1.2.2.1
          have h2 := HW.out.2.1.2.2.1
          have h3 := HW.out.2.2.1
          omega
        have hil : i < l0.length := by omega
        have FR := Lib.hid (F2.out.trans (HBL.out.mono F2.out.size))
        obtain ⟨E, hE⟩ : ∃ E, E = edB l0 i j := ⟨_, rfl⟩
        have HQ := Lib.hid (show notQ (edB l0) (subL L k) = !E by rw [HL.out, hsub, hE]; unfold notQ nth; simp)
        have HCALL := Lib.hid (show Calls Try.prog 89 #[.agg #[.int .i64 n0, .slice a0 l0.length p0], .int .i64 i, .int .i64 j] wr.drew fun e w' => e = .returned (.bool E) ∧ Below wr.drew.heap.size wr.drew w' by
          rw [hE]; exact areJoined_is n0 _ l0 i j wr.drew ((H0.out.on FR.out).on (Below.refl _ _).drew) hil (by omega))
        unfold maxLen at hcb
        have hgB := Lib.hid hg
        clear hcell hO hsub hvb hE hll hg
        go_wp2
        go_still_tail 7, (by kernel_rfl)
        change wpList _ _ _ _ _ wr.drew
        go_wp2_with fail
        refine HCALL.out.mono ?_
        rintro e w4 ⟨rfl, hb⟩
        have HB4 := Lib.hid (HBL.out.drew.trans (hb.mono HBL.out.size))
        have HO4 := Lib.hid (ownsRow_block HO.out fun k hk => hb.block k (HO.out.lt k hk).2)
        clear hb c1 e0 e1 x0 x1
        cases E with
        | true =>
          have HJ2 := Lib.hid (show js = pickJ (notQ (edB l0)) L (k + 1) by rw [pickJ_no HQ.out]; exact HJ.out)
          go_wp2
          go_roundw
          case rel => exact ⟨k + 1, js, by omega, by go_num, by omega, HJ2.out, HO4.out, HB4.out⟩
          case measure => simp [intOf]; omega
        | false =>
          have HJ2 := Lib.hid (show js ++ [k] = pickJ (notQ (edB l0)) L (k + 1) by rw [pickJ_yes HQ.out, HJ.out])
          have hz4 : w2.heap.size ≤ w4.heap.size := HB4.out.size
          go_wp2_with (at_builtin; refine wpList_append_own _ rfl (.tmp 29) (.tmp 31) 41 rfl w2.heap.size 22 i1 (.slice none 0 0) 1 24 Try.underlying41 hj hj0 hj1 hj2 rfl (by decide) _ js.length (js.map (elt vs)) rfl (HO4.out.alloc _) ⟨w4.heap.size, 0, none⟩ 1 1 [.slice (some ⟨b, 0, none⟩) 2 cb] rfl rfl (cell_one_new _ _ _) (fun u hu => by simp at hu; subst hu; rfl) (by unfold maxLen; omega) (by omega) (by simp; omega) ?_)
          intro v' w5 ho5 hg5 hn5
          have HO5 := Lib.hid (show w5.ownsRow w2.heap.size 22 1 v' (js ++ [k]).length ((js ++ [k]).map (elt vs)) by
            rw [List.length_append, List.map_append]
            show w5.ownsRow w2.heap.size 22 1 v' (js.length + 1) (js.map (elt vs) ++ [elt vs k])
            rw [HX.out]
            exact ho5)
          have HB5 := Lib.hid ((HB4.out.alloc HB4.out.size (.cells #[.slice (some ⟨b, 0, none⟩) 2 cb] 22)).grown hg5 (by simp; omega) (fun k hk => (HO4.out.lt k hk).1))
          clear ho5 hg5 hn5
          go_wp2
          go_roundw
          case rel => exact ⟨k + 1, js ++ [k], by omega, by go_num, by simp; omega, HJ2.out, HO5.out, HB5.out⟩
          case measure => simp [intOf]; omega
      · obtain rfl : k = L.length := by omega
        have HP := Lib.hid (HV.out.keep (Only.of_below 0 0 HBL.out) (.inr (Nat.zero_le _)))
        have HE := Lib.hid (show js.map (subL L) = R by rw [HJ.out, pickJ_all, HRE.out])
        have HF := Lib.hid (show OwnII w.heap.size wr.heap.size wr _ (js.map (subL L)) from (HP.out.pick (fun j hj => by rw [HJ.out] at hj; exact pickJ_lt _ _ _ j hj) (by rw [HJ.out]; exact pickJ_nodup _ _ _) HBW.out HO.out).mono HZ2.out (Nat.le_refl _))
        have FR := Lib.hid (F2.out.trans (HBL.out.mono F2.out.size))
        go_wp2
        refine bodyPost_ret (v := .tuple #[_, .bool true]) (by simp [results, Try.results41, go_sem] <;> rfl) rfl ?_
        rw [HDF.out, ← HE.out]
        exact ⟨_, rfl, HF.out, FR.out⟩

set_option maxHeartbeats 2000000 in
set_option maxRecDepth 100000 in
theorem specOptional (n0 n1 : Int) (v0 v1 : Value) (l0 l1 : List Int) (w : World) (h0 : Ints w v0 l0) (h1 : Ints w v1 l1) :
    Calls Try.prog 40 #[.agg #[.int .i64 n0, v0], .agg #[.int .i64 n1, v1]] w (fun e w' => ∃ v, e = .returned (.tuple #[v, .bool (decide (WithinP n0 l0 n1 l1))]) ∧ OwnII w.heap.size w'.heap.size w' v (optR n0 l0 n1 l1) ∧ Below w.heap.size w w') := by
  obtain ⟨a0, p0, rfl, -, -⟩ := h0.form
  obtain ⟨a1, p1, rfl, -, -⟩ := h1.form
  obtain ⟨i1, hj, hj0, hj1, hj2⟩ := info_parts infoInts
  have H0 := Lib.hid h0
  have H1 := Lib.hid h1
  clear h0 h1
  have F0 := Lib.hid (show Below w.heap.size w ((w.alloc (.cells #[.int .i64 n0, .slice a0 l0.length p0] 44)).alloc (.cells #[.int .i64 n1, .slice a1 l1.length p1] 44)) from ((Below.refl _ w).alloc (Nat.le_refl _) _).alloc (by simp) _)
  have A0 := Lib.hid (show Box w.heap.size [.int .i64 n0, .slice a0 l0.length p0] ((w.alloc (.cells #[.int .i64 n0, .slice a0 l0.length p0] 44)).alloc (.cells #[.int .i64 n1, .slice a1 l1.length p1] 44)) from (Box.new w _ _).keep (grown_alloc _ _ none) (by simp))
  have C0 := Lib.hid (show Box (w.heap.size + 1) [.int .i64 n1, .slice a1 l1.length p1] ((w.alloc (.cells #[.int .i64 n0, .slice a0 l0.length p0] 44)).alloc (.cells #[.int .i64 n1, .slice a1 l1.length p1] 44)) by have h := Box.new (w.alloc (.cells #[.int .i64 n0, .slice a0 l0.length p0] 44)) 44 [.int .i64 n1, .slice a1 l1.length p1]; simpa using h)
  obtain ⟨D, hD⟩ : ∃ D, D = decide (WithinP n0 l0 n1 l1) := ⟨_, rfl⟩
  obtain ⟨R, hR⟩ : ∃ R, R = optR n0 l0 n1 l1 := ⟨_, rfl⟩
  have HD := Lib.hid hD
  have HR := Lib.hid hR
  rw [← hD, ← hR]
  clear hD hR
  obtain ⟨w0, hw0⟩ : ∃ w0, w0 = ((w.alloc (.cells #[.int .i64 n0, .slice a0 l0.length p0] 44)).alloc (.cells #[.int .i64 n1, .slice a1 l1.length p1] 44)) := ⟨_, rfl⟩
  rw [← hw0] at F0 A0 C0
  obtain ⟨w9, hw9⟩ : ∃ w9, w9 = w0.alloc (.cells #[] 22) := ⟨_, rfl⟩
  obtain ⟨z, hz⟩ : ∃ z, z = w.heap.size + 1 + 1 := ⟨_, rfl⟩
  have hz0 : w0.heap.size = z := by rw [hw0, hz]; simp
  have O9 := Lib.hid (show w9.ownsRow z 22 1 (.slice (some ⟨z, 0, none⟩) 0 0) 0 [] by
    rw [hw9, ← hz0]
    have := World.ownsRow_lit w0 #[] 0 (e := 22) (base := w0.heap.size) (Nat.le_refl _) (by simp [maxLen]) (size := 1) rfl
    simpa using this)
  have hb9 : Below w0.heap.size w0 w9 := by rw [hw9]; exact (Below.refl _ _).alloc (Nat.le_refl _) _
  have HZ9 := Lib.hid (show w.heap.size ≤ z ∧ w.heap.size + 2 ≤ z by rw [hz]; omega)
  have HZ0 := Lib.hid (show w9.heap.size = z + 1 by rw [hw9, ← hz0]; simp)
  replace F0 := Lib.hid (F0.out.trans (hb9.mono F0.out.size))
  replace A0 := Lib.hid (A0.out.on hb9)
  replace C0 := Lib.hid (C0.out.on hb9)
  clear hb9
  have x0 : w9.cell? ⟨w.heap.size, 0, none⟩ = some (.int .i64 n0) := A0.out.1 0 _ rfl
  have x1 : w9.cell? ⟨w.heap.size, 1, none⟩ = some (.slice a0 l0.length p0) := A0.out.1 1 _ rfl
  have y0 : w9.cell? ⟨w.heap.size + 1, 0, none⟩ = some (.int .i64 n1) := C0.out.1 0 _ rfl
  have y1 : w9.cell? ⟨w.heap.size + 1, 1, none⟩ = some (.slice a1 l1.length p1) := C0.out.1 1 _ rfl
  go_enter Try.func40, Try.ntmps40
  go_wp2_with fail
  rw [← hw0, ← hw9, ← hz]
  clear hw0 hw9 hz hz0
  refine (specWithin n0 n1 _ _ l0 l1 _ (H0.out.on F0.out) (H1.out.on F0.out)).mono ?_
  rintro e w1 ⟨r, rfl, hr, hb⟩
  have F1 := Lib.hid (F0.out.trans (hb.mono F0.out.size))
  have A1 := Lib.hid (A0.out.on hb)
  have C1 := Lib.hid (C0.out.on hb)
  have HRR := Lib.hid hr
  have O1 := Lib.hid (ownsRow_block O9.out fun k hk => hb.block k (O9.out.lt k hk).2)
  have HZ1 := Lib.hid (show z + 1 ≤ w1.heap.size by rw [← HZ0.out]; exact hb.size)
  clear hr hb F0 A0 C0 x0 x1 y0 y1
  cases r with
  | false =>
    have HN := Lib.hid (show ¬ WithinP n0 l0 n1 l1 from fun h => absurd (HRR.out.2 h) (by decide))
    have HDF := Lib.hid (show D = false by rw [HD.out]; exact decide_eq_false HN.out)
    have HRE := Lib.hid (show R = [] by rw [HR.out]; unfold optR; rw [if_neg HN.out])
    go_wp2
    refine bodyPost_ret (v := .tuple #[_, .bool false]) (by simp [results, Try.results40, go_sem] <;> rfl) rfl ?_
    rw [HDF.out, HRE.out]
    exact ⟨_, rfl, ⟨[], by simp, by simpa using Go.Joins.ownsRow_le O1.out HZ9.out.1, fun i h => by simp at h, fun i k h => by simp at h, fun k hk => (O1.out.lt k hk).2, fun i j k h => by simp at h⟩, F1.out⟩
  | true =>
    have HW := Lib.hid (HRR.out.1 (by first | rfl | trivial))
    have HDF := Lib.hid (show D = true by rw [HD.out]; exact decide_eq_true HW.out)
    have HRE := Lib.hid (show R = (edgesR n1 l1).filter (notQ (edB l0)) by rw [HR.out]; unfold optR; rw [if_pos HW.out])
    have x0 : w1.cell? ⟨w.heap.size, 0, none⟩ = some (.int .i64 n0) := A1.out.1 0 _ rfl
    have x1 : w1.cell? ⟨w.heap.size, 1, none⟩ = some (.slice a0 l0.length p0) := A1.out.1 1 _ rfl
    have y0 : w1.cell? ⟨w.heap.size + 1, 0, none⟩ = some (.int .i64 n1) := C1.out.1 0 _ rfl
    have y1 : w1.cell? ⟨w.heap.size + 1, 1, none⟩ = some (.slice a1 l1.length p1) := C1.out.1 1 _ rfl
    go_wp2_with fail
    refine (specEdges n1 _ l1 _ (H1.out.on F1.out)).mono ?_
    rintro e w2 ⟨vl, rfl, ⟨vs, hV⟩, hb⟩
    have HV := Lib.hid hV
    have F2 := Lib.hid (F1.out.trans (hb.mono F1.out.size))
    have A2 := Lib.hid (A1.out.on hb)
    have C2 := Lib.hid (C1.out.on hb)
    have HZ2 := Lib.hid (show w.heap.size ≤ w1.heap.size from F1.out.size)
    have HZW := Lib.hid (show w1.heap.size ≤ w2.heap.size from hb.size)
    have O2 := Lib.hid (ownsRow_block O1.out fun k hk => hb.block k (O1.out.lt k hk).2)
    have HBW := Lib.hid (show w1.heap.size ≤ w2.heap.size from hb.size)
    obtain ⟨L, hL⟩ : ∃ L, L = edgesR n1 l1 := ⟨_, rfl⟩
    have HL := Lib.hid hL
    rw [← hL] at HV HRE
    have hL49 : L.length ≤ 49 := by rw [hL]; exact edgesR_length n1 l1
    obtain ⟨al, capl, rfl, hml⟩ : ∃ a cap, vl = .slice a L.length cap ∧ cap ≤ maxLen := by
      rcases HV.out.form with ⟨rfl, e⟩ | ⟨g, cap, rfl, -, -, hm, -⟩
      · exact ⟨none, 0, by rw [e]; rfl, by unfold maxLen; omega⟩
      · exact ⟨_, cap, rfl, hm⟩
    unfold maxLen at hml
    clear hb hV hL x0 x1 y0 y1
    have x0 : w2.cell? ⟨w.heap.size, 0, none⟩ = some (.int .i64 n0) := A2.out.1 0 _ rfl
    have x1 : w2.cell? ⟨w.heap.size, 1, none⟩ = some (.slice a0 l0.length p0) := A2.out.1 1 _ rfl
    go_wp2
    go_loopw [6, 8] (fun s c wr => ∃ (k : Nat) (js : List Nat), k ≤ L.length ∧ c = .int .i64 k ∧ js.length ≤ k ∧ Hid (js = pickJ (notQ (edB l0)) L k) ∧ Hid (wr.ownsRow z 22 1 s js.length (js.map (elt vs))) ∧ Hid (∀ r, s.ownBlock = some r → r = z ∨ w2.heap.size ≤ r) ∧ Hid (Only z (z + 1) w2 wr)) (fun _ c _ => L.length - (intOf c).toNat)
    case atStart => exact ⟨0, [], by omega, rfl, by simp, rfl, O2.out, fun r hr => .inl (by simpa [Value.ownBlock] using hr.symm), Only.refl _ _ _⟩
    case round =>
      clear O2 x0 x1
      obtain ⟨k, js, hk, rfl, hjl, HJ, HO, HOZ, HBL⟩ := hrel
      have A3 := Lib.hid (A2.out.keepO HBL.out (.inl (by have := HZ9.out; omega)))
      have x0 : wr.cell? ⟨w.heap.size, 0, none⟩ = some (.int .i64 n0) := A3.out.1 0 _ rfl
      have x1 : wr.cell? ⟨w.heap.size, 1, none⟩ = some (.slice a0 l0.length p0) := A3.out.1 1 _ rfl
      have HVR := Lib.hid (HV.out.keep HBL.out (.inr HZ1.out))
      by_cases hlt : k < L.length
      · rcases HVR.out.form with ⟨-, hn⟩ | ⟨g, cap, hv, hg, -, -, hcell⟩
        · rw [hn] at hlt; simp at hlt
        simp only [Value.slice.injEq] at hv
        obtain ⟨rfl, -, rfl⟩ := hv
        have c1 : wr.cell? ⟨g, k, none⟩ = some (elt vs k) := hcell k hlt
        have hO := HVR.out.2.2.1 k hlt
        obtain ⟨b, cb, i, j, hij, hjl1, hj7, hsub, hvb, hbl, hcb, hcb2, e0, e1⟩ := edge_cells (n := n1) (l := l1) (by rw [← HL.out]; exact hlt) (by rw [← HL.out]; exact hO)
        rw [hvb] at c1
        have HX := Lib.hid hvb
        have HC1 := Lib.hid c1
        have hll : j < l0.length := by
          have h1 := HW.out.1.2.2.1
          have h2 := HW.out.2.1.2.2.1
          have h3 := HW.out.2.2.1
          omega
        have hil : i < l0.length := by omega
        have FR := Lib.hid (Below.only F2.out HBL.out HZ9.out.1 (Nat.le_refl _))
        obtain ⟨E, hE⟩ : ∃ E, E = edB l0 i j := ⟨_, rfl⟩
        have HQ := Lib.hid (show notQ (edB l0) (subL L k) = !E by rw [HL.out, hsub, hE]; unfold notQ nth; simp)
        have HCALL := Lib.hid (show Calls Try.prog 77 #[.agg #[.int .i64 n0, .slice a0 l0.length p0], .int .i64 i, .int .i64 j] wr.drew fun e w' => e = .returned (.bool E) ∧ Below wr.drew.heap.size wr.drew w' by
          rw [hE]; exact l2Edge_is n0 _ l0 i j wr.drew ((H0.out.on FR.out).on (Below.refl _ _).drew) hil (by omega))
        unfold maxLen at hcb
        have hgB := Lib.hid hg
        clear hcell hO hsub hvb hE hll hg
        go_wp2
        go_still_tail 13, (by kernel_rfl)
        change wpList _ _ _ _ _ wr.drew
        go_wp2_with fail
        refine HCALL.out.mono ?_
        rintro e w4 ⟨rfl, hb⟩
        have HB4 := Lib.hid ((HBL.out.thenG0).thenB hb)
        have HO4 := Lib.hid (ownsRow_block HO.out fun k hk => hb.block k (HO.out.lt k hk).2)
        have HC4 := Lib.hid (show w4.cell? ⟨g, k, none⟩ = some (.slice (some ⟨b, 0, none⟩) 2 cb) from (hb.cell (p := ⟨g, k, none⟩) hgB.out).trans HC1.out)
        clear hb c1 e0 e1 x0 x1
        cases E with
        | true =>
          have HJ2 := Lib.hid (show js = pickJ (notQ (edB l0)) L (k + 1) by rw [pickJ_no HQ.out]; exact HJ.out)
          go_wp2
          go_roundw
          case rel => exact ⟨k + 1, js, by omega, by go_num, by omega, HJ2.out, HO4.out, HOZ.out, HB4.out⟩
          case measure => simp [intOf]; omega
        | false =>
          have HJ2 := Lib.hid (show js ++ [k] = pickJ (notQ (edB l0)) L (k + 1) by rw [pickJ_yes HQ.out, HJ.out])
          have hz4 : z ≤ w4.heap.size := by have h1 := HB4.out.size; have h2 := F2.out.size; have h3 := HZ1.out; have h4 := HZW.out; omega
          have c4 := HC4.out
          go_wp2_with (at_builtin; refine wpList_append_own_at _ rfl (.tmp 38) (.tmp 43) 41 rfl z 22 i1 (.slice none 0 0) 1 24 Try.underlying41 hj hj0 hj1 hj2 rfl (by decide) _ js.length (js.map (elt vs)) rfl (HO4.out.alloc _) ⟨w4.heap.size, 0, none⟩ 1 1 [.slice (some ⟨b, 0, none⟩) 2 cb] rfl rfl (cell_one_new _ _ _) (fun u hu => by simp at hu; subst hu; rfl) (by unfold maxLen; omega) (by omega) (by simp; omega) ?_)
          intro v' w5 ho5 hg5 hn5 hloc
          have HO5 := Lib.hid (show w5.ownsRow z 22 1 v' (js ++ [k]).length ((js ++ [k]).map (elt vs)) by
            rw [List.length_append, List.map_append]
            show w5.ownsRow z 22 1 v' (js.length + 1) (js.map (elt vs) ++ [elt vs k])
            rw [HX.out]
            exact ho5)
          have HB5 := Lib.hid ((HB4.out.thenZ (grown_alloc w4 (.cells #[.slice (some ⟨b, 0, none⟩) 2 cb] 22) none) (by simp)).thenZ hg5 HOZ.out)
          have HZ5 : Hid (∀ r, v'.ownBlock = some r → r = z ∨ w2.heap.size ≤ r) := fun r hr => by
            rcases hloc with h | h
            · exact HOZ.out r (by rw [← h]; exact hr)
            · rw [h] at hr
              have := HB4.out.size
              have h2 : (w4.alloc (.cells #[.slice (some ⟨b, 0, none⟩) 2 cb] 22)).heap.size = r := by simpa using hr
              simp at h2
              exact .inr (by omega)
          clear ho5 hg5 hn5 hloc c4
          go_wp2
          go_roundw
          case rel => exact ⟨k + 1, js ++ [k], by omega, by go_num, by simp; omega, HJ2.out, HO5.out, HZ5.out, HB5.out⟩
          case measure => simp [intOf]; omega
      · obtain rfl : k = L.length := by omega
        have HE := Lib.hid (show js.map (subL L) = R by rw [HJ.out, pickJ_all, HRE.out])
        have HF := Lib.hid (show OwnII w.heap.size wr.heap.size wr _ (js.map (subL L)) from (HVR.out.pickZ (fun j hj => by rw [HJ.out] at hj; exact pickJ_lt _ _ _ j hj) (by rw [HJ.out]; exact pickJ_nodup _ _ _) (show z ≤ w1.heap.size by have := HZ1.out; omega) HO.out).mono HZ9.out.1 (Nat.le_refl _))
        have FR := Lib.hid (Below.only F2.out HBL.out HZ9.out.1 (Nat.le_refl _))
        go_wp2
        refine bodyPost_ret (v := .tuple #[_, .bool true]) (by simp [results, Try.results40, go_sem] <;> rfl) rfl ?_
        rw [HDF.out, ← HE.out]
        exact ⟨_, rfl, HF.out, FR.out⟩

end Go.Proofs.Ytgfndgjabhabjaa
