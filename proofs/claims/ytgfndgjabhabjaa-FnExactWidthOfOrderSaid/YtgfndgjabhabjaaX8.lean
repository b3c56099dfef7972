/- FillOf: the specification's loop over the edges. -/
import Derived.Test.YtgfndgjabhabjaaX7
namespace Go.Proofs.Ytgfndgjabhabjaa
set_option linter.unusedVariables false
set_option linter.unusedSimpArgs false
open Go.RowKit

theorem none_ownF {lo : Nat} {W : World} (hlo : lo ≤ W.heap.size) : OwnII lo (W.alloc (.cells #[] 22)).heap.size (W.alloc (.cells #[] 22)) (.slice (some ⟨W.heap.size, 0, none⟩) 0 0) [] := by
  have own := World.ownsRow_lit W #[] 0 (e := 22) (base := lo) hlo (by simp [maxLen]) (size := 1) rfl
  exact ⟨[], rfl, own, fun i hi => by simp at hi, fun i k hi => by simp at hi, fun k hk => (own.lt k hk).2, fun i j k hi => by simp at hi⟩

set_option maxHeartbeats 4000000 in
set_option maxRecDepth 100000 in
theorem specFill (n : Int) (v vl : Value) (lg l : List Int) (w : World) (h : Ints w v lg) (hl : Ints w vl l) (hlen : l.length ≤ 1048576) (hnil : v = .slice none 0 0 ∨ ∃ ad cap, v = .slice (some ad) lg.length cap) :
    Calls Try.prog 27 #[.agg #[.int .i64 n, v], vl] w (fun e w' => ∃ v, e = .returned (.tuple #[v, .bool (decide (OrdP n lg l))]) ∧ OwnII w.heap.size w'.heap.size w' v (fillR n lg l) ∧ Below w.heap.size w w') := by
  obtain ⟨i1, hj, hj0, hj1, hj2⟩ := info_parts infoInts
  obtain ⟨a, cap, rfl, -, -⟩ := h.form
  obtain ⟨al9, capl, rfl, hcl, hmll⟩ := hl.form
  have HI := Lib.hid h
  have HLo := Lib.hid hl
  have HNI := Lib.hid hnil
  unfold maxLen at hmll
  clear h hl hnil
  obtain ⟨D, hD⟩ : ∃ D, D = decide (OrdP n lg l) := ⟨_, rfl⟩
  obtain ⟨R, hR⟩ : ∃ R, R = fillR n lg l := ⟨_, rfl⟩
  have HD := Lib.hid hD
  have HR := Lib.hid hR
  rw [← hD, ← hR]
  clear hD hR
  obtain ⟨w0, hw0⟩ : ∃ w0, w0 = (w.alloc (.cells #[.int .i64 n, .slice a lg.length cap] 44)) := ⟨_, rfl⟩
  have F0 := Lib.hid (show Below w.heap.size w w0 by rw [hw0]; exact (Below.refl _ w).alloc (Nat.le_refl _) _)
  have A0 := Lib.hid (show Box w.heap.size [.int .i64 n, .slice a lg.length cap] w0 by rw [hw0]; exact Box.new w _ _)
  have x0 : w0.cell? ⟨w.heap.size, 0, none⟩ = some (.int .i64 n) := A0.out.1 0 _ rfl
  have x1 : w0.cell? ⟨w.heap.size, 1, none⟩ = some (.slice a lg.length cap) := A0.out.1 1 _ rfl
  go_enter Try.func27, Try.ntmps27
  go_wp2_with fail
  rw [← hw0]
  clear hw0
  refine (specIsOrder n _ _ lg l _ (HI.out.on F0.out) (HLo.out.on F0.out) hlen).mono ?_
  rintro e w1 ⟨r, rfl, hr, hb⟩
  have HRR := Lib.hid hr
  have F1 := Lib.hid (F0.out.trans (hb.mono F0.out.size))
  have A1 := Lib.hid (A0.out.on hb)
  clear hb hr x0 x1 A0
  have x0 : w1.cell? ⟨w.heap.size, 0, none⟩ = some (.int .i64 n) := A1.out.1 0 _ rfl
  have x1 : w1.cell? ⟨w.heap.size, 1, none⟩ = some (.slice a lg.length cap) := A1.out.1 1 _ rfl
  cases r with
  | false =>
    have HN := Lib.hid (show ¬ OrdP n lg l from fun h => absurd (HRR.out.2 h) (by decide))
    have HDF := Lib.hid (show D = false by rw [HD.out]; exact decide_eq_false HN.out)
    have HRE := Lib.hid (show R = [] by rw [HR.out]; unfold fillR; rw [if_neg HN.out])
    have HNO := Lib.hid (none_ownF (lo := w.heap.size) (W := w1) F1.out.size)
    have HNB := Lib.hid (F1.out.alloc F1.out.size (.cells #[] 22))
    go_wp2
    refine bodyPost_ret (v := .tuple #[.slice (some ⟨w1.heap.size, 0, none⟩) 0 0, .bool false]) (by simp [results, Try.results27, go_sem]) rfl ?_
    rw [HDF.out, HRE.out]
    exact ⟨_, rfl, HNO.out, HNB.out⟩
  | true =>
    have HO := Lib.hid (HRR.out.1 (by first | rfl | trivial))
    have HDF := Lib.hid (show D = true by rw [HD.out]; exact decide_eq_true HO.out)
    obtain ⟨N, hN⟩ : ∃ N, lg.length = N := ⟨_, rfl⟩
    have HNN := Lib.hid (show n = (N : Int) by have := HO.out.len; omega)
    have HNL := Lib.hid hN
    obtain ⟨P, hP⟩ : ∃ P, P = fillP N (edB lg) l l.length := ⟨_, rfl⟩
    have HRE := Lib.hid (show R = (edgesR (N : Int) (adjL N P)).filter (notQ (edB lg)) by rw [HR.out]; unfold fillR; rw [if_pos HO.out, hP, ← HNN.out, hN])
    have HCALL := Lib.hid (show Calls Try.prog 75 #[.agg #[.int .i64 n, .slice a lg.length cap], .slice al9 l.length capl] w1 (GetsG w1.heap.size w1 n (adjL N P)) by
      rw [hP, HNN.out]
      exact specFilled N _ _ lg l w1 (HI.out.on F1.out) (HLo.out.on F1.out) hlen HNI.out (by rw [← HNN.out]; exact HO.out) hN)
    clear hN hP
    go_wp2_with fail
    refine HCALL.out.mono ?_
    rintro e w2 ⟨vc, rfl, ho, hb⟩
    have F2 := Lib.hid (F1.out.trans (hb.mono F1.out.size))
    have A2 := Lib.hid (A1.out.on hb)
    have hfc := ho.ints.form
    rw [adjL_length] at hfc
    obtain ⟨ac, cc, rfl, -, hmc⟩ := hfc
    have HOC := Lib.hid ho
    clear ho hb x0 x1
    obtain ⟨w4, hw4⟩ : ∃ w4, w4 = (w2.alloc (.cells #[.int .i64 n, .slice ac N cc] 44)).alloc (.cells #[] 22) := ⟨_, rfl⟩
    obtain ⟨y, hy⟩ : ∃ y, y = w2.heap.size := ⟨_, rfl⟩
    obtain ⟨z, hz⟩ : ∃ z, z = y + 1 := ⟨_, rfl⟩
    have O9 := Lib.hid (show w4.ownsRow z 22 1 (.slice (some ⟨z, 0, none⟩) 0 0) 0 [] by
      rw [hw4, hz, hy]
      have := World.ownsRow_lit (w2.alloc (.cells #[.int .i64 n, .slice ac N cc] 44)) #[] 0 (e := 22) (base := w2.heap.size + 1) (by simp) (by simp [maxLen]) (size := 1) rfl
      simpa using this)
    have hb4 : Below w2.heap.size w2 w4 := by rw [hw4]; exact ((Below.refl _ _).alloc (Nat.le_refl _) _).alloc (by simp) _
    have F4 := Lib.hid (F2.out.trans (hb4.mono F2.out.size))
    have A4 := Lib.hid (A2.out.on hb4)
    have HZ9 := Lib.hid (show w.heap.size ≤ z ∧ w.heap.size + 1 ≤ z by rw [hz, hy]; have h1 := A2.out.2.2; have h2 := F2.out.size; exact ⟨by omega, by omega⟩)
    have HZ0 := Lib.hid (show w4.heap.size = z + 1 by rw [hw4, hz, hy]; simp)
    have HO4 := Lib.hid (HOC.out.on hb4)
    have C4 := Lib.hid (show Box y [.int .i64 n, .slice ac N cc] w4 by rw [hw4, hy]; exact (Box.new w2 _ _).keep (grown_alloc _ _ none) (by simp))
    have y0 : (w2.alloc (.cells #[.int .i64 n, .slice ac N cc] 44)).heap.size = z := by rw [hz, hy]; simp
    clear hb4 y0
    have x0 : w4.cell? ⟨y, 0, none⟩ = some (.int .i64 n) := C4.out.1 0 _ rfl
    have x1 : w4.cell? ⟨y, 1, none⟩ = some (.slice ac N cc) := C4.out.1 1 _ rfl
    have HCE := Lib.hid (show Calls Try.prog 76 #[.agg #[.int .i64 n, .slice ac N cc]] w4 (GetsII w4 (edgesR (N : Int) (adjL N P))) by
      rw [HNN.out]; exact specEdges (N : Int) _ (adjL N P) w4 HO4.out.ints)
    unfold maxLen at hmc
    go_upto_region 5 with fail
    rw [← hw4, ← hy, ← hz]
    clear hw4 hy hz
    go_wp2_with fail
    refine HCE.out.mono ?_
    rintro e w5 ⟨vle, rfl, ⟨vs, hV⟩, hb⟩
    have HV := Lib.hid hV
    have F5 := Lib.hid (F4.out.trans (hb.mono F4.out.size))
    have A5 := Lib.hid (A4.out.on hb)
    have HZ1 := Lib.hid (show z + 1 ≤ w4.heap.size by rw [HZ0.out]; exact Nat.le_refl _)
    have HZW := Lib.hid (show w4.heap.size ≤ w5.heap.size from hb.size)
    have O2 := Lib.hid (ownsRow_block O9.out fun k hk => hb.block k (O9.out.lt k hk).2)
    obtain ⟨L, hL⟩ : ∃ L, L = edgesR (N : Int) (adjL N P) := ⟨_, rfl⟩
    have HL := Lib.hid hL
    rw [← hL] at HV HRE
    have hL49 : L.length ≤ 49 := by rw [hL]; exact edgesR_length _ _
    obtain ⟨al, caple, rfl, hml⟩ : ∃ a cap, vle = .slice a L.length cap ∧ cap ≤ maxLen := by
      rcases HV.out.form with ⟨rfl, e⟩ | ⟨g, cap, rfl, -, -, hm, -⟩
      · exact ⟨none, 0, by rw [e]; rfl, by unfold maxLen; omega⟩
      · exact ⟨_, cap, rfl, hm⟩
    unfold maxLen at hml
    clear hb hV hL x0 x1
    have x0 : w5.cell? ⟨w.heap.size, 0, none⟩ = some (.int .i64 n) := A5.out.1 0 _ rfl
    have x1 : w5.cell? ⟨w.heap.size, 1, none⟩ = some (.slice a lg.length cap) := A5.out.1 1 _ rfl
    go_wp2
    go_loopw [7, 9] (fun s c wr => ∃ (k : Nat) (js : List Nat), k ≤ L.length ∧ c = .int .i64 k ∧ js.length ≤ k ∧ Hid (js = pickJ (notQ (edB lg)) L k) ∧ Hid (wr.ownsRow z 22 1 s js.length (js.map (elt vs))) ∧ Hid (∀ r, s.ownBlock = some r → r = z ∨ w5.heap.size ≤ r) ∧ Hid (Only z (z + 1) w5 wr)) (fun _ c _ => L.length - (intOf c).toNat)
    case atStart => exact ⟨0, [], by omega, rfl, by simp, rfl, O2.out, fun r hr => .inl (by simpa [Value.ownBlock] using hr.symm), Only.refl _ _ _⟩
    case round =>
      clear O2 x0 x1
      obtain ⟨k, js, hk, rfl, hjl, HJ, HO, HOZ, HBL⟩ := hrel
      have A3 := Lib.hid (A5.out.keepO HBL.out (.inl (by have := HZ9.out; omega)))
      have x0 : wr.cell? ⟨w.heap.size, 0, none⟩ = some (.int .i64 n) := A3.out.1 0 _ rfl
      have x1 : wr.cell? ⟨w.heap.size, 1, none⟩ = some (.slice a lg.length cap) := A3.out.1 1 _ rfl
      have HVR := Lib.hid (HV.out.keep HBL.out (.inr HZ1.out))
      by_cases hlt : k < L.length
      · rcases HVR.out.form with ⟨-, hn⟩ | ⟨g, cap, hv, hg, -, -, hcell⟩
        · rw [hn] at hlt; simp at hlt
        simp only [Value.slice.injEq] at hv
        obtain ⟨rfl, -, rfl⟩ := hv
        have c1 : wr.cell? ⟨g, k, none⟩ = some (elt vs k) := hcell k hlt
        have hO := HVR.out.2.2.1 k hlt
        obtain ⟨b, cb, i, j, hij, hjl1, hj7, hsub, hvb, hbl, hcb, hcb2, e0, e1⟩ := edge_cells (n := (N : Int)) (l := adjL N P) (by rw [← HL.out]; exact hlt) (by rw [← HL.out]; exact hO)
        rw [hvb] at c1
        have HX := Lib.hid hvb
        have HC1 := Lib.hid c1
        have hll : j < lg.length := by rw [adjL_length] at hjl1; have := HNL.out; omega
        have hil : i < lg.length := by omega
        have FR := Lib.hid (Below.only F5.out HBL.out HZ9.out.1 (Nat.le_refl _))
        obtain ⟨E, hE⟩ : ∃ E, E = edB lg i j := ⟨_, rfl⟩
        have HQ := Lib.hid (show notQ (edB lg) (subL L k) = !E by rw [HL.out, hsub, hE]; unfold notQ nth; simp)
        have HCALL := Lib.hid (show Calls Try.prog 77 #[.agg #[.int .i64 n, .slice a lg.length cap], .int .i64 i, .int .i64 j] wr.drew fun e w' => e = .returned (.bool E) ∧ Below wr.drew.heap.size wr.drew w' by
          rw [hE]; exact l2Edge_is n _ lg i j wr.drew ((HI.out.on FR.out).on (Below.refl _ _).drew) hil (by omega))
        unfold maxLen at hcb
        have hgB := Lib.hid hg
        clear hcell hO hsub hvb hE hll hg
        go_wp2
        go_still_tail 13, (by kernel_rfl)
        change wpList _ _ _ _ _ wr.drew
        go_wp2_with fail
        refine HCALL.out.mono ?_
        rintro e w6 ⟨rfl, hb⟩
        have HB4 := Lib.hid ((HBL.out.thenG0).thenB hb)
        have HO4 := Lib.hid (ownsRow_block HO.out fun k hk => hb.block k (HO.out.lt k hk).2)
        have HC4 := Lib.hid (show w6.cell? ⟨g, k, none⟩ = some (.slice (some ⟨b, 0, none⟩) 2 cb) from (hb.cell (p := ⟨g, k, none⟩) hgB.out).trans HC1.out)
        clear hb c1 e0 e1 x0 x1
        cases E with
        | true =>
          have HJ2 := Lib.hid (show js = pickJ (notQ (edB lg)) L (k + 1) by rw [pickJ_no HQ.out]; exact HJ.out)
          go_wp2
          go_roundw
          case rel => exact ⟨k + 1, js, by omega, by go_num, by omega, HJ2.out, HO4.out, HOZ.out, HB4.out⟩
          case measure => simp [intOf]; omega
        | false =>
          have HJ2 := Lib.hid (show js ++ [k] = pickJ (notQ (edB lg)) L (k + 1) by rw [pickJ_yes HQ.out, HJ.out])
          have hz4 : z ≤ w6.heap.size := by have h1 := HB4.out.size; have h2 := F5.out.size; have h3 := HZ1.out; have h4 := HZW.out; omega
          have c4 := HC4.out
          go_wp2_with (at_builtin; refine wpList_append_own_at _ rfl (.tmp 42) (.tmp 47) 41 rfl z 22 i1 (.slice none 0 0) 1 24 Try.underlying41 hj hj0 hj1 hj2 rfl (by decide) _ js.length (js.map (elt vs)) rfl (HO4.out.alloc _) ⟨w6.heap.size, 0, none⟩ 1 1 [.slice (some ⟨b, 0, none⟩) 2 cb] rfl rfl (cell_one_new _ _ _) (fun u hu => by simp at hu; subst hu; rfl) (by unfold maxLen; omega) (by omega) (by simp; omega) ?_)
          intro v' w7 ho5 hg5 hn5 hloc
          have HO5 := Lib.hid (show w7.ownsRow z 22 1 v' (js ++ [k]).length ((js ++ [k]).map (elt vs)) by
            rw [List.length_append, List.map_append]
            show w7.ownsRow z 22 1 v' (js.length + 1) (js.map (elt vs) ++ [elt vs k])
            rw [HX.out]
            exact ho5)
          have HB5 := Lib.hid ((HB4.out.thenZ (grown_alloc w6 (.cells #[.slice (some ⟨b, 0, none⟩) 2 cb] 22) none) (by simp)).thenZ hg5 HOZ.out)
          have HZ5 : Hid (∀ r, v'.ownBlock = some r → r = z ∨ w5.heap.size ≤ r) := fun r hr => by
            rcases hloc with h | h
            · exact HOZ.out r (by rw [← h]; exact hr)
            · rw [h] at hr
              have := HB4.out.size
              have h2 : (w6.alloc (.cells #[.slice (some ⟨b, 0, none⟩) 2 cb] 22)).heap.size = r := by simpa using hr
              simp at h2
              exact .inr (by omega)
          clear ho5 hg5 hn5 hloc c4
          go_wp2
          go_roundw
          case rel => exact ⟨k + 1, js ++ [k], by omega, by go_num, by simp; omega, HJ2.out, HO5.out, HZ5.out, HB5.out⟩
          case measure => simp [intOf]; omega
      · obtain rfl : k = L.length := by omega
        have HE := Lib.hid (show js.map (subL L) = R by rw [HJ.out, pickJ_all, HRE.out])
        have HF := Lib.hid (show OwnII w.heap.size wr.heap.size wr _ (js.map (subL L)) from (HVR.out.pickZ (fun j hj => by rw [HJ.out] at hj; exact pickJ_lt _ _ _ j hj) (by rw [HJ.out]; exact pickJ_nodup _ _ _) (show z ≤ w4.heap.size by have := HZ1.out; omega) HO.out).mono HZ9.out.1 (Nat.le_refl _))
        have FR := Lib.hid (Below.only F5.out HBL.out HZ9.out.1 (Nat.le_refl _))
        go_wp2
        refine bodyPost_ret (v := .tuple #[_, .bool true]) (by simp [results, Try.results27, go_sem] <;> rfl) rfl ?_
        rw [HDF.out, ← HE.out]
        exact ⟨_, rfl, HF.out, FR.out⟩

end Go.Proofs.Ytgfndgjabhabjaa
