/- WidthOfOrder: the implementation's. -/
import Derived.Test.YtgfndgjabhabjaaXb
namespace Go.Proofs.Ytgfndgjabhabjaa
set_option linter.unusedVariables false
set_option linter.unusedSimpArgs false
open Go.RowKit

theorem mem_sub {F : List (List Int)} {m : Nat} (h : m < F.length) : subL F m ∈ F := by
  unfold subL
  rw [List.getD_eq_getElem?_getD, List.getElem?_eq_getElem h]
  exact List.getElem_mem h

/-- What one edge of the fill holds in memory. -/
theorem fill_cells {n : Int} {lg l : List Int} (ho : OrdP n lg l) {lo : Nat} {W : World} {v : Value} {k : Nat} (hk : k < (fillR n lg l).length) (h : OwnI lo W v (subL (fillR n lg l) k)) :
    ∃ (b cap i j : Nat), i < j ∧ j < lg.length ∧ edB lg i j = false ∧ subL (fillR n lg l) k = [(i : Int), (j : Int)] ∧ v = .slice (some ⟨b, 0, none⟩) 2 cap ∧ b < W.heap.size ∧ cap ≤ maxLen ∧ 2 ≤ cap ∧ W.cell? ⟨b, 0, none⟩ = some (.int .i64 i) ∧ W.cell? ⟨b, 1, none⟩ = some (.int .i64 j) := by
  obtain ⟨i, j, h1, h2, h3, h4⟩ := fill_at ho hk
  rw [h4] at h
  rcases h.form with ⟨-, h9⟩ | ⟨b, cap, hv, hb, hc, hm, h5, h6, -⟩
  · simp at h9
  · exact ⟨b, cap, i, j, h1, h2, h3, h4, hv, hc, h5, by simpa using hm, by simpa [nth] using h6 0 (by simp), by simpa [nth] using h6 1 (by simp)⟩

/-- One edge of the fill comes to the others. -/
theorem fill_turn {n : Int} {lg l : List Int} (ho : OrdP n lg l) {k i j : Nat} (hk : k < (fillR n lg l).length) (hij : i < j) (hj : j < lg.length) (hq : edB lg i j = false) (hs : subL (fillR n lg l) k = [(i : Int), (j : Int)]) :
    flipE (adjL lg.length (plusK (edB lg) (fillR n lg l) k)) i j = adjL lg.length (plusK (edB lg) (fillR n lg l) (k + 1)) ∧ IsG n (adjL lg.length (plusK (edB lg) (fillR n lg l) k)) := by
  have hd : ∀ m, m < k → (nth (subL (fillR n lg l) m) 0).toNat ≠ (nth (subL (fillR n lg l) m) 1).toNat := fun m hm => by
    obtain ⟨a, b, h1, -, -, h4⟩ := fill_at ho (show m < (fillR n lg l).length by omega)
    rw [h4]; simp [nth]; omega
  have hsy := plusK_sym (edB_sym' ho.graph) (fillR n lg l) k hd
  have h := plus_new hsy (show i < lg.length by omega) hj (by omega) (fill_new ho hk hij hq hs)
  refine ⟨?_, ?_⟩
  · rw [h]
    show _ = adjL lg.length (plusE (plusK (edB lg) (fillR n lg l) k) (nth (subL (fillR n lg l) k) 0).toNat (nth (subL (fillR n lg l) k) 1).toNat)
    rw [hs]; simp [nth]
  · have hn := ho.len
    have h1 : 1 ≤ lg.length := by have := ho.graph.1; omega
    have h2 := adj_graph h1 hn.2.1 hsy
    rw [← hn.2.2] at h2
    exact h2

set_option maxHeartbeats 4000000 in
set_option maxRecDepth 100000 in
theorem implWidth (n : Int) (v vl : Value) (lg l : List Int) (w : World) (h : Ints w v lg) (hl : Ints w vl l) (hlen : l.length ≤ 1048576) :
    Calls Try.prog 39 #[.agg #[.int .i64 n, v], vl] w (SaysN (widthR n lg l) w) := by
  obtain ⟨a, cap, rfl, -, -⟩ := h.form
  obtain ⟨al, capl, rfl, hcl, hml⟩ := hl.form
  have HA := argG' (T := 44) (n := n) h
  have HI := Lib.hid h
  have HL := Lib.hid hl
  unfold maxLen at hml
  clear h hl
  obtain ⟨R, hR⟩ : ∃ R, R = widthR n lg l := ⟨_, rfl⟩
  have HR := Lib.hid hR
  rw [← hR]
  clear hR
  obtain ⟨w0, hw0⟩ : ∃ w0, w0 = (w.alloc (.cells #[.int .i64 n, .slice a lg.length cap] 44)) := ⟨_, rfl⟩
  have HB0 := Lib.hid (show Below (w.heap.size + 1) (w.alloc (.cells #[.int .i64 n, .slice a lg.length cap] 44)) w0 by rw [hw0]; exact Below.refl _ _)
  have hz0 : w0.heap.size = w.heap.size + 1 := by rw [hw0]; simp
  have HZ0 := Lib.hid hz0
  obtain ⟨c0, c1, cI, cB, cz⟩ := HA.out _ HB0.out
  have HCI := Lib.hid cI
  have HCB := Lib.hid cB
  clear cI cB
  go_enter Try.func39, Try.ntmps39
  go_wp2_with fail
  rw [← hw0]
  clear hw0 hz0
  refine (implFill n _ _ lg l _ HCI.out (HL.out.on HCB.out) hlen).mono ?_
  rintro e w1 ⟨vf, rfl, ⟨vs, hV⟩, hb⟩
  have HV := Lib.hid hV
  have HB1 := Lib.hid (HB0.out.trans (hb.mono (by omega)))
  have HZ1 := Lib.hid (show w.heap.size + 1 ≤ w1.heap.size by have := hb.size; have := HZ0.out; omega)
  obtain ⟨F, hF⟩ : ∃ F, F = fillR n lg l := ⟨_, rfl⟩
  have HF := Lib.hid hF
  rw [← hF] at HV
  have hF49 : F.length ≤ 49 := by rw [hF]; exact (fill_bounds n lg l).1
  obtain ⟨af, capf, rfl, hmf⟩ : ∃ a cap, vf = .slice a F.length cap ∧ cap ≤ maxLen := by
    rcases HV.out.form with ⟨rfl, e⟩ | ⟨g, cap, rfl, -, -, hm, -⟩
    · exact ⟨none, 0, by rw [e]; rfl, by unfold maxLen; omega⟩
    · exact ⟨_, cap, rfl, hm⟩
  unfold maxLen at hmf
  clear hb hV hF c0 c1 cz
  obtain ⟨D, hD⟩ : ∃ D, D = decide (OrdP n lg l) := ⟨_, rfl⟩
  have HD := Lib.hid hD
  rw [← hD]
  clear hD
  obtain ⟨c0, c1, cI, cB, cz⟩ := HA.out _ HB1.out
  have HCI1 := Lib.hid cI
  have HCB1 := Lib.hid cB
  clear cI cB
  cases D with
  | false =>
    have HN := Lib.hid (show ¬ OrdP n lg l from fun h => by have := HD.out; rw [decide_eq_true h] at this; cases this)
    have HRE := Lib.hid (show R = -1 by rw [HR.out]; unfold widthR; rw [if_neg HN.out])
    go_wp2
    go_ret
    exact ⟨by rw [HRE.out]; rfl, HCB1.out⟩
  | true =>
    have HO := Lib.hid (of_decide_eq_true HD.out.symm)
    obtain ⟨N, hN⟩ : ∃ N, lg.length = N := ⟨_, rfl⟩
    have HNN := Lib.hid (show n = (N : Int) by have := HO.out.len; omega)
    have HNL := Lib.hid hN
    have hN7 : N ≤ 7 := by have := HO.out.len; omega
    have hlN : l.length ≤ N := by have := HO.out.len; omega
    obtain ⟨LP, hP⟩ : ∃ LP, LP = adjL N (fillP N (edB lg) l l.length) := ⟨_, rfl⟩
    have HRE := Lib.hid (show R = ((widK LP l l.length : Nat) : Int) by rw [HR.out]; unfold widthR; rw [if_pos HO.out, hN, ← hP])
    have HST := Lib.hid (show ∀ k, k < l.length → ∃ X : Nat, laterR n LP l (nth l k) = (X : Int) ∧ X < 128 ∧ widK LP l (k + 1) = max (widK LP l k) (popN X) from fun k hk => by
      have h1 := wid_step HO.out hk
      rw [hN, ← hP] at h1
      exact h1)
    have HPL := Lib.hid (show adjL N (plusK (edB lg) F F.length) = LP by rw [hP, ← hN, HF.out]; exact fill_plus HO.out)
    clear hN hP
    go_wp2_with fail
    refine (copyOfGraph_any n _ lg _ HCI1.out (by have := HNL.out; omega)).mono ?_
    rintro e w2 ⟨vc, rfl, ho, hb⟩
    obtain ⟨g, capg, hv, hgB, hgw, hgm⟩ : ∃ g cp, vc = .slice (some ⟨g, 0, none⟩) N cp ∧ w1.heap.size ≤ g ∧ g < w2.heap.size ∧ cp ≤ maxLen := by
      rcases ho.form with ⟨-, h9⟩ | ⟨g, cp, h1, h2, h3, h4, h5, -, -⟩
      · have := HO.out.graph.1; have := HO.out.graph.2.2.1; rw [h9] at this; simp at this; omega
      · exact ⟨g, cp, by rw [h1, HNL.out], h2, h3, h5⟩
    subst hv
    have HB2 := Lib.hid (HB1.out.trans (hb.mono cz))
    unfold maxLen at hgm
    obtain ⟨q, hq⟩ : ∃ q, q = w2.heap.size := ⟨_, rfl⟩
    obtain ⟨w3, hw3⟩ : ∃ w3, w3 = w2.alloc (.cells #[.int .i64 n, .slice (some ⟨g, 0, none⟩) N capg] 44) := ⟨_, rfl⟩
    have HOW := Lib.hid (show OwnI w1.heap.size w3 (.slice (some ⟨g, 0, none⟩) N capg) (adjL N (plusK (edB lg) F 0)) by
      show OwnI w1.heap.size w3 (.slice (some ⟨g, 0, none⟩) N capg) (adjL N (edB lg))
      rw [← HNL.out, ← adj_of HO.out.graph, hw3, HNL.out]
      exact ho.alloc _)
    have HBX := Lib.hid (show BoxG q n (.slice (some ⟨g, 0, none⟩) N capg) w3 by
      rw [hw3, hq]; exact BoxG.new w2 44 n (.slice (some ⟨g, 0, none⟩) N capg) ⟨_, _, _, rfl⟩)
    have hb3 : Below w2.heap.size w2 w3 := by rw [hw3]; exact (Below.refl _ _).alloc (Nat.le_refl _) _
    have hbv : Below w1.heap.size w1 w3 := hb.trans (hb3.mono hb.size)
    have HB3 := Lib.hid (HB1.out.trans (hbv.mono cz))
    have HV3 := Lib.hid (HV.out.keep (Only.of_below 0 0 hbv) (.inr (Nat.zero_le _)))
    have HGQ := Lib.hid (show g ≠ q ∧ w1.heap.size ≤ g ∧ g < q ∧ q < w3.heap.size by rw [hq]; exact ⟨by omega, hgB, hgw, by rw [hw3]; simp⟩)
    clear ho hb hb3 hbv c0 c1 cz hgB hgw
    go_upto_region 5 with fail
    rw [← hw3, ← hq]
    clear hw3 hq
    go_wp2
    go_loopw [25] (fun c wr => ∃ k : Nat, k ≤ F.length ∧ c = .int .i64 (k : Int) ∧ Hid (BoxG q n (.slice (some ⟨g, 0, none⟩) N capg) wr) ∧ Hid (OwnI w1.heap.size wr (.slice (some ⟨g, 0, none⟩) N capg) (adjL N (plusK (edB lg) F k))) ∧ Hid (w3.grownBy wr (some g))) (fun c _ => F.length - (intOf c).toNat)
    case atStart => exact ⟨0, by omega, rfl, HBX.out, HOW.out, World.grownBy.refl _ _⟩
    case round =>
      clear HBX HOW
      obtain ⟨k, hk, rfl, HBX, HOW, HG⟩ := hrel
      have HBW := Lib.hid (HB3.out.grown HG.out (by have := HB3.out.size; simpa using this) (fun j e => by cases e; have := HGQ.out.2.1; have := HZ1.out; omega))
      have HCB := Lib.hid (HA.out _ HBW.out).2.2.2.1
      have HVR := Lib.hid (HV3.out.keep (Only.of_grown (lo := g) (hi := g + 1) HG.out (fun k e => by cases e; omega)) (.inl HGQ.out.2.1))
      by_cases hlt : k < F.length
      · rcases HVR.out.form with ⟨-, hn⟩ | ⟨gf, capf', hv, hgf, -, -, hcell⟩
        · rw [hn] at hlt; simp at hlt
        simp only [Value.slice.injEq] at hv
        obtain ⟨rfl, -, rfl⟩ := hv
        have c1 := hcell k hlt
        have hO := HVR.out.2.2.1 k hlt
        obtain ⟨b, cb, i, j, hij, hjN, hqf, hsub, hvb, hbl, hcb, hcb2, e0, e1⟩ := fill_cells HO.out (by rw [← HF.out]; exact hlt) (by rw [← HF.out]; exact hO)
        rw [hvb] at c1
        obtain ⟨t1, t2⟩ := fill_turn HO.out (by rw [← HF.out]; exact hlt) hij hjN hqf hsub
        rw [HNL.out, ← HF.out] at t1 t2
        rw [HNL.out] at hjN
        obtain ⟨d0, d1, dz⟩ := HBX.out
        have hcall := turnEdge_any w1.heap.size q g capg n (adjL N (plusK (edB lg) F k)) i j wr.drew d0 (by rw [adjL_length]; exact d1) (fun e => HGQ.out.1 e.symm) (by rw [adjL_length]; exact HOW.out.on (Below.refl _ _).drew) (by rw [adjL_length]; omega) (by rw [adjL_length]; exact hjN) (by omega) t2.small (by rw [adjL_length]; exact hN7)
        rw [t1, adjL_length] at hcall
        have HCALL := Lib.hid hcall
        unfold maxLen at hcb
        clear hcell hO hsub hvb hqf t1 t2 hcall d0 d1 dz
        go_wp2
        go_still_tail 6, (by kernel_rfl)
        change wpList _ _ _ _ _ wr.drew
        go_wp2_with fail
        refine HCALL.out.mono ?_
        rintro e w6 ⟨rfl, ho6, hg6⟩
        have hgd : wr.grownBy w6 (some g) := ⟨hg6.os, hg6.tape, hg6.output, hg6.size, fun k hk hn => hg6.block k hk hn⟩
        have HBX6 := Lib.hid (HBX.out.keep hgd (by simp; exact HGQ.out.1))
        have HOW6 := Lib.hid ho6
        have HG6 := Lib.hid (grown_trans HG.out hgd)
        clear ho6 hg6 hgd c1 e0 e1
        go_wp2
        go_roundw
        case rel => exact ⟨k + 1, by omega, by go_num, HBX6.out, HOW6.out, HG6.out⟩
        case measure => simp [intOf]; omega
      · obtain rfl : k = F.length := by omega
        have HOW0 := Lib.hid (show OwnI w1.heap.size wr (.slice (some ⟨g, 0, none⟩) N capg) LP by rw [← HPL.out]; exact HOW.out)
        clear hlt HOW
        go_wp2
        go_loopw [10, 39] (fun s c wy => ∃ (k B : Nat), k ≤ l.length ∧ c = .int .i64 (k : Int) ∧ s = .int .i64 (B : Int) ∧ B ≤ 7 ∧ Hid (B = widK LP l k) ∧ Hid (Below wr.heap.size wr wy)) (fun _ c _ => l.length - (intOf c).toNat)
        case atStart => exact ⟨0, 0, by omega, rfl, rfl, by omega, rfl, Below.refl _ _⟩
        case round =>
          obtain ⟨k, B, hk, rfl, rfl, hB7, HB, HBL⟩ := hrel
          have FR := Lib.hid (HCB.out.trans (HBL.out.mono HCB.out.size))
          by_cases hlt : k < l.length
          · obtain ⟨b2, off2, cap2, hv, _, hm2, hbb, hcell⟩ := HL.out.pos (by omega)
            simp only [Value.slice.injEq] at hv
            obtain ⟨rfl, -, rfl⟩ := hv
            obtain ⟨x, hx⟩ : ∃ x, x = nth l k := ⟨_, rfl⟩
            have e0 := (FR.out.cell (p := ⟨b2, off2 + k, none⟩) hbb).trans (hcell k hlt)
            rw [← hx] at e0
            obtain ⟨X, hX, hX7, hXW⟩ := HST.out k hlt
            rw [← hx] at hX
            obtain ⟨d0, d1, dz⟩ := HBX.out.keep (below_grown HBL.out) (by simp)
            have HOY := Lib.hid (HOW0.out.on HBL.out)
            have HLY := Lib.hid (HL.out.on FR.out)
            have HXX := Lib.hid hX
            obtain ⟨p, hp⟩ : ∃ p, p = popN X := ⟨_, rfl⟩
            have hp7 : p ≤ 7 := by rw [hp]; exact pop_le7 X
            have HPU := Lib.hid (show popU (X : Int) = (p : Int) by rw [hp]; exact popU_w X hX7)
            obtain ⟨M, hM⟩ : ∃ M, M = max B p := ⟨_, rfl⟩
            have hM7 : M ≤ 7 := by omega
            have HMB := Lib.hid (show M = widK LP l (k + 1) by rw [hXW, ← HB.out, ← hp, hM])
            have HMM := Lib.hid (show (M : Int) = if (B : Int) < (p : Int) then (p : Int) else (B : Int) by split <;> omega)
            unfold maxLen at hm2
            clear hcell hx hX hXW hp hM
            go_wp2_with fail
            refine (implLater n _ _ LP l x _ HOY.out.ints HLY.out hlen).mono ?_
            rintro e w5 ⟨rfl, hb5⟩
            rw [HXX.out]
            have HB5 := Lib.hid (HBL.out.trans (hb5.mono HBL.out.size))
            clear hb5 e0 d0 d1 dz
            go_wp2_with fail
            refine (implCountSet (X : Int) _).mono ?_
            rintro e w6 ⟨rfl, rfl⟩
            rw [HPU.out]
            by_cases hBp : (B : Int) < (p : Int)
            · have HME := Lib.hid (show (M : Int) = (p : Int) by rw [HMM.out, if_pos hBp])
              have d0 : decide ((B : Int) < (p : Int)) = true := decide_eq_true hBp
              go_wp2
              go_roundw
              case rel => exact ⟨k + 1, M, by omega, by go_num, by rw [HME.out], hM7, HMB.out, HB5.out⟩
              case measure => simp [intOf]; omega
            · have HME := Lib.hid (show (M : Int) = (B : Int) by rw [HMM.out, if_neg hBp])
              have d0 : decide ((B : Int) < (p : Int)) = false := decide_eq_false hBp
              go_wp2
              go_roundw
              case rel => exact ⟨k + 1, M, by omega, by go_num, by rw [HME.out], hM7, HMB.out, HB5.out⟩
              case measure => simp [intOf]; omega
          · obtain rfl : k = l.length := by omega
            have HFI := Lib.hid (show R = (B : Int) by rw [HRE.out, HB.out])
            go_wp2
            go_ret
            exact ⟨by rw [HFI.out]; rfl, FR.out⟩

end Go.Proofs.Ytgfndgjabhabjaa
