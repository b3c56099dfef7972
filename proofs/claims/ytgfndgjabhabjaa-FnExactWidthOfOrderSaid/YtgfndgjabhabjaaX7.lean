/- FillOf: the specification's. -/
import Derived.Test.YtgfndgjabhabjaaX6
import Derived.Test.YtgfndgjabhabjaaX5
namespace Go.Proofs.Ytgfndgjabhabjaa
set_option linter.unusedVariables false
set_option linter.unusedSimpArgs false
open Go.RowKit

theorem box_blank {w0 w1 : World} (hw1 : w1 = w0.alloc (.cells #[.int .i64 0, .slice none 0 0] 44)) : Blank w0.heap.size w1 := by rw [hw1]; exact Blank.new w0 _

set_option maxHeartbeats 4000000 in
set_option maxRecDepth 100000 in
theorem specFilled (N : Nat) (v vl : Value) (lg l : List Int) (w : World) (h : Ints w v lg) (hl : Ints w vl l) (hlen : l.length ≤ 1048576) (hnil : v = .slice none 0 0 ∨ ∃ ad cap, v = .slice (some ad) lg.length cap) (hO : OrdP (N : Int) lg l) (hN : lg.length = N) :
    Calls Try.prog 75 #[.agg #[.int .i64 (N : Int), v], vl] w (GetsG w.heap.size w (N : Int) (adjL N (fillP N (edB lg) l l.length))) := by
  obtain ⟨a, cap, rfl, -, -⟩ := h.form
  obtain ⟨al0, capl0, rfl, hcl, hml⟩ := hl.form
  have HI := Lib.hid h
  have HL := Lib.hid hl
  have HO := Lib.hid hO
  have HNL := Lib.hid hN
  have HNI := Lib.hid hnil
  unfold maxLen at hml
  have hN7 : N ≤ 7 := by have := hO.len; omega
  have hN1 : 1 ≤ N := by have := hO.graph.1; omega
  have hl1 : l.length ≤ N := by have := hO.len; omega
  obtain ⟨Q, hQ⟩ : ∃ Q, Q = edB lg := ⟨_, rfl⟩
  have HQE := Lib.hid hQ
  rw [← hQ]
  have HSY := Lib.hid (show ∀ k, Sym N (fillP N Q l k) from fun k => fillP_sym (by rw [hQ, ← hN]; exact edB_sym' hO.graph) l k)
  clear h hl hO hN hnil hQ
  obtain ⟨w0, hw0⟩ : ∃ w0, w0 = (w.alloc (.cells #[.int .i64 (N : Int), .slice a lg.length cap] 44)) := ⟨_, rfl⟩
  have F0 := Lib.hid (show Below w.heap.size w w0 by rw [hw0]; exact (Below.refl _ w).alloc (Nat.le_refl _) _)
  have A0 := Lib.hid (show Box w.heap.size [.int .i64 (N : Int), .slice a lg.length cap] w0 by rw [hw0]; exact Box.new w _ _)
  have hz0 : w0.heap.size = w.heap.size + 1 := by rw [hw0]; simp
  obtain ⟨w1, hw1⟩ : ∃ w1, w1 = w0.alloc (.cells #[.int .i64 0, .slice none 0 0] 44) := ⟨_, rfl⟩
  have BL1 := Lib.hid (box_blank hw1)
  have BB1 := Lib.hid (show Below w0.heap.size w0 w1 by rw [hw1]; exact (Below.refl _ w0).alloc (Nat.le_refl _) _)
  have A1 := Lib.hid (A0.out.on BB1.out)
  have y0 : w1.cell? ⟨w.heap.size, 0, none⟩ = some (.int .i64 (N : Int)) := A1.out.1 0 _ rfl
  have y1 : w1.cell? ⟨w.heap.size, 1, none⟩ = some (.slice a lg.length cap) := A1.out.1 1 _ rfl
  have hz1 : w1.heap.size = w.heap.size + 2 := by rw [hw1]; simp [hz0]
  go_enter Try.func75, Try.ntmps75
  go_wp2_with fail
  rw [← hw0, ← hw1]
  clear hw0 hw1 y0 y1
  refine (l2Copy_any (N : Int) _ lg _ (HI.out.on (F0.out.trans (BB1.out.mono F0.out.size))) (by have := HNL.out; omega) HNI.out).mono ?_
  rintro e w2 ⟨vc, rfl, ho, hb⟩
  have BL2 := Lib.hid (BL1.out.keep (below_grown hb) (by simp))
  have BB2 := Lib.hid (BB1.out.trans (hb.mono BB1.out.size))
  have HC2 := Lib.hid (CurQ.start (N := N) (ho.mono (show w0.heap.size + 1 ≤ w1.heap.size by omega)) BL2.out BB2.out 44)
  obtain ⟨q, hq⟩ : ∃ q, q = w2.heap.size := ⟨_, rfl⟩
  obtain ⟨w3, hw3⟩ : ∃ w3, w3 = w2.alloc (.cells #[.int .i64 (N : Int), vc] 44) := ⟨_, rfl⟩
  have HC3 := Lib.hid (show CurQ w0 q N (adjL N (fillP N Q l 0)) vc w3 by
    show CurQ w0 q N (adjL N Q) vc w3
    rw [HQE.out, ← HNL.out, ← adj_of HO.out.graph, hw3, hq, HNL.out]
    exact HC2.out)
  obtain ⟨ac, cc, rfl, -, -⟩ := ho.ints.form
  clear hb ho HC2
  go_upto_region 2 with fail
  rw [← hw3, ← hq]
  clear hw3 hq
  go_wp2
  go_loopw [6] (fun c wr => ∃ (k : Nat) (u : Value), k ≤ l.length ∧ c = .int .i64 (k : Int) ∧ Hid (CurQ w0 q N (adjL N (fillP N Q l k)) u wr)) (fun c _ => l.length - (intOf c).toNat)
  case atStart => exact ⟨0, _, by omega, rfl, HC3.out⟩
  case round =>
    clear HC3
    obtain ⟨k, u, hk, rfl, HC⟩ := hrel
    have hfu := HC.out.1.ints.form
    rw [adjL_length] at hfu
    obtain ⟨au, capu, rfl, -, -⟩ := hfu
    obtain ⟨⟨c0, c1, cz⟩, c2, c3⟩ := HC.out.2.1
    obtain ⟨b0, b1, b2, b3, b4⟩ := HC.out.2.2.1
    rw [hz0] at b0 b1 b2 b3 b4
    by_cases hlt : k < l.length
    · have FW := Lib.hid (F0.out.trans (HC.out.2.2.2.1.mono F0.out.size))
      obtain ⟨bb, off, cap1, hv, _, hbm, hbb, hcell⟩ := (HL.out.on FW.out).pos (by omega)
      simp only [Value.slice.injEq] at hv
      obtain ⟨rfl, -, rfl⟩ := hv
      obtain ⟨x, hx⟩ : ∃ x, x = nth l k := ⟨_, rfl⟩
      have e0 := hcell k hlt
      rw [← hx] at e0
      obtain ⟨Z, hZ, hZ2, hZP⟩ : ∃ X : Nat, laterR (N : Int) (adjL N (fillP N Q l k)) l x = (X : Int) ∧ X < 2 ^ N ∧ fillP N Q l (k + 1) = joinP (fillP N Q l k) X := by
        obtain ⟨h1, h2⟩ := fill_late HO.out (k := k) hlt
        rw [HNL.out] at h1 h2
        rw [hx, HQE.out]
        exact ⟨_, h1, h2, rfl⟩
      have hZ7 : Z < 128 := by have := two_le N hN7; omega
      have HE := Lib.hid hZP
      have HCD := Lib.hid (HC.out.on ((Below.refl wr.heap.size wr).drew))
      have HCALL := Lib.hid (show Calls Try.prog 84 #[.agg #[.int .i64 (N : Int), .slice au N capu], .slice (some ⟨bb, off, none⟩) l.length capl0, .int .i64 x] wr.drew (SaysN (Z : Int) wr.drew) by
        rw [← hZ]
        exact specLater (N : Int) _ _ (adjL N (fillP N Q l k)) l x wr.drew HCD.out.1.ints (HL.out.on (FW.out.trans ((Below.refl wr.heap.size wr).drew.mono FW.out.size))) hlen)
      obtain ⟨LL, hLL⟩ : ∃ LL, LL = (memN Z).map fun v : Nat => (v : Int) := ⟨_, rfl⟩
      have HLL := Lib.hid (show listR (Z : Int) = LL by rw [hLL, ← listU_nat]; unfold listR; rw [if_pos (by omega)])
      have hLn : LL.length = (memN Z).length := by rw [hLL]; simp
      have HLn := Lib.hid hLn
      have hL7 : LL.length ≤ 7 := by rw [← HLL.out]; exact listR_length _
      have HLE : Hid (∀ p, p < LL.length → nth LL p = (((memN Z).getD p 0 : Nat) : Int) ∧ (memN Z).getD p 0 < N) := fun p hp => by
        refine ⟨by rw [hLL]; simp [nth, List.getD, show p < (memN Z).length by omega], ?_⟩
        exact bit_lt hZ2 (mem_memN (getD_mem (show p < (memN Z).length by omega))).2
      unfold maxLen at hbm
      clear hcell hLL hLn hZ2 hx hZ hZP
      go_wp2
      go_still_tail 6, (by kernel_rfl)
      change wpList _ _ _ _ _ wr.drew
      go_wp2_with fail
      refine HCALL.out.mono ?_
      rintro e w4 ⟨rfl, hb4⟩
      have HB4 := Lib.hid ((Below.refl wr.heap.size wr).drew.trans (hb4.mono (Nat.le_refl _)))
      clear hb4 e0 b0 b1 b2 b3 b4 c0 c1 cz c2 c3
      go_wp2_with fail
      refine (specListOf (Z : Int) _).mono ?_
      rintro e w5 ⟨vl, rfl, ho, hb⟩
      rw [HLL.out] at ho
      replace hb := HB4.out.trans (hb.mono HB4.out.size)
      have HC5 := Lib.hid (HC.out.on hb)
      obtain ⟨al, capl, rfl, -, hcl⟩ := ho.ints.form
      have HO5 := Lib.hid (show OwnI (q + 1) w5 (.slice al LL.length capl) LL from ho.mono (by have := HC.out.2.1.1.2.2; have := HB4.out.size; omega))
      unfold maxLen at hcl
      clear ho hb
      go_wp2
      go_loopw [8] (fun c wy => ∃ (i : Nat) (u : Value), i ≤ LL.length ∧ c = .int .i64 i ∧ Hid (CurQ w0 q N (adjL N (pairS (fillP N Q l k) (memN Z) i 0)) u wy) ∧ Hid (OwnI (q + 1) wy (.slice al LL.length capl) LL)) (fun c _ => LL.length - (intOf c).toNat)
      case atStart =>
        refine ⟨0, .slice au N capu, by omega, rfl, ?_, HO5.out⟩
        rw [adjL_congr N (pairS (fillP N Q l k) (memN Z) 0 0) (fillP N Q l k) fun a _ b _ => pairS_zero _ _ a b]
        exact HC5.out
      case round =>
        clear HC5 HO5 HC
        obtain ⟨i, u, hi, rfl, HC, HOL⟩ := hrel
        by_cases hil : i < LL.length
        · go_wp2
          go_loopw [9] (fun c wy => ∃ (j : Nat) (u : Value), j ≤ i ∧ c = .int .i64 j ∧ Hid (CurQ w0 q N (adjL N (pairS (fillP N Q l k) (memN Z) i j)) u wy) ∧ Hid (OwnI (q + 1) wy (.slice al LL.length capl) LL)) (fun c _ => i - (intOf c).toNat)
          case atStart => exact ⟨0, u, by omega, rfl, HC.out, HOL.out⟩
          case round =>
            clear HC HOL
            obtain ⟨j, u, hj, rfl, HC, HOL⟩ := hrel
            by_cases hji : j < i
            · have hjl : j < LL.length := by omega
              obtain ⟨b2, off2, cap2, hv, _, _, hb2, hcell2⟩ := HOL.out.ints.pos (by omega)
              simp only [Value.slice.injEq] at hv
              obtain ⟨rfl, -, rfl⟩ := hv
              obtain ⟨n1, n2⟩ := HLE.out i hil
              obtain ⟨n3, n4⟩ := HLE.out j (by omega)
              obtain ⟨A, hA⟩ : ∃ A, A = (memN Z).getD i 0 := ⟨_, rfl⟩
              obtain ⟨B, hB⟩ : ∃ B, B = (memN Z).getD j 0 := ⟨_, rfl⟩
              have d1 := hcell2 i hil
              have d2 := hcell2 j (by omega)
              rw [n1, ← hA] at d1
              rw [n3, ← hB] at d2
              rw [← hA] at n2
              rw [← hB] at n4
              have hAB : A ≠ B := fun e => by
                rw [hA, hB] at e
                have := getD_inj (memN_nodup Z) (by have := HLn.out; omega) (by have := HLn.out; omega) e
                omega
              obtain ⟨⟨c0, c1, cz⟩, c2, c3⟩ := HC.out.2.1
              have HCD := Lib.hid (HC.out.on ((Below.refl wr.heap.size wr).drew))
              obtain ⟨r, hcall⟩ := specPlus N (pairS (fillP N Q l k) (memN Z) i j) u A B wr.drew HCD.out.1.ints HCD.out.1.nilform hN1 hN7 (pairS_sym (HSY.out k) (memN_nodup Z) i j) n2 n4 hAB
              rw [hA, hB, pairS_adj N _ _ hji (by have := HLn.out; omega), ← hA, ← hB] at hcall
              have HCALL := Lib.hid hcall
              obtain ⟨au, capu, hu, -, -⟩ := HC.out.1.ints.form
              have HU := Lib.hid hu
              clear hcell2 n1 n3 hA hB hcall hu hz1 hlt hZ7 hk hAB hi hbb hbm hcl
              go_wp2
              go_region_with (go_at_call 95; refine HCALL.out.mono ?_; rintro e w6 ⟨v6, rfl, ho6, hb6⟩; obtain ⟨a6, cap6, rfl, -, -⟩ := ho6.ints.form; obtain ⟨⟨g0, g1, gz⟩, g2, g3⟩ := HCD.out.2.1.keep (below_grown hb6) (by simp))
              all_goals
                have HC6 := Lib.hid (HCD.out.next ho6 hb6)
                have HO6 := Lib.hid ((((HOL.out.on ((Below.refl wr.heap.size wr).drew)).on hb6).setBelow (a := ⟨q, 0, none⟩) (by show q < q + 1; omega) (.int .i64 N)).setBelow (a := ⟨q, 1, none⟩) (by show q < q + 1; omega) (.slice a6 (adjL N (pairS (fillP N Q l k) (memN Z) i (j + 1))).length cap6))
                clear ho6 hb6 c0 c1 cz c2 c3 d1 d2
                go_wp2
                go_roundw
                case rel => exact ⟨j + 1, _, by omega, by go_num, HC6.out, HO6.out⟩
                case measure => simp [intOf]; omega
            · obtain rfl : j = i := by omega
              have HY := Lib.hid (show adjL N (pairS (fillP N Q l k) (memN Z) (j + 1) 0) = adjL N (pairS (fillP N Q l k) (memN Z) j j) from adjL_congr N _ _ fun a _ b _ => (pairS_next _ _ j a b).symm)
              go_wp2
              go_roundw
              case rel => exact ⟨j + 1, u, by omega, by go_num, by rw [HY.out]; exact HC.out, HOL.out⟩
              case measure => simp [intOf]; omega
        · obtain rfl : i = LL.length := by omega
          have HY := Lib.hid (show adjL N (fillP N Q l (k + 1)) = adjL N (pairS (fillP N Q l k) (memN Z) LL.length 0) by rw [HE.out, HLn.out]; exact adjL_congr N _ _ fun a _ b _ => (pairS_all _ hZ7 a b).symm)
          go_wp2
          go_roundw
          case rel => exact ⟨k + 1, u, by omega, by go_num, by rw [HY.out]; exact HC.out⟩
          case measure => simp [intOf]; omega
    · obtain rfl : k = l.length := by omega
      go_wp2
      refine bodyPost_ret (v := .agg #[.int .i64 (N : Int), .slice au N capu]) (by simp [results, Try.results75, go_sem, b0, b1, b2, b3, b4] <;> rfl) rfl ?_
      refine ⟨_, rfl, ?_, ?_⟩
      · exact ((HC.out.1.setBelow (a := ⟨w.heap.size + 1, 0, none⟩) (by show w.heap.size + 1 < w0.heap.size + 1; omega) _).setBelow (a := ⟨w.heap.size + 1, 1, none⟩) (by show w.heap.size + 1 < w0.heap.size + 1; omega) _).mono (by omega)
      · exact F0.out.trans (((HC.out.2.2.2.1.setCell (p := ⟨w.heap.size + 1, 0, none⟩) (by show w0.heap.size ≤ w.heap.size + 1; omega) _).setCell (p := ⟨w.heap.size + 1, 1, none⟩) (by show w0.heap.size ≤ w.heap.size + 1; omega) _).mono F0.out.size)

end Go.Proofs.Ytgfndgjabhabjaa
