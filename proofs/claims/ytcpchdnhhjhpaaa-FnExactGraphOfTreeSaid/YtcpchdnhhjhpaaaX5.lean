/- GraphOfTree: the specification's. -/
import Derived.Test.YtcpchdnhhjhpaaaX3
import Derived.Test.YtcpchdnhhjhpaaaG6
import Derived.Test.YtcpchdnhhjhpaaaV6
import Derived.Test.YtcpchdnhhjhpaaaG3
import Derived.Test.YtcpchdnhhjhpaaaQ
import Derived.Deep.RegionWith
namespace Go.Proofs.Ytcpchdnhhjhpaaa
set_option linter.unusedVariables false
set_option linter.unusedSimpArgs false
open Go.RowKit

/-- One edge more, whether it was there or not. -/
theorem specPlus (N : Nat) (P : Nat → Nat → Bool) (v : Value) (a b : Nat) (w : World) (h : Ints w v (adjL N P)) (hnil : v = .slice none 0 0 ∨ ∃ ad cap, v = .slice (some ad) (adjL N P).length cap) (h1 : 1 ≤ N) (h7 : N ≤ 7) (hs : Sym N P) (ha : a < N) (hb : b < N) (hab : a ≠ b) :
    ∃ r, Calls Try.prog 82 #[.agg #[.int .i64 (N : Int), v], .int .i64 (a : Int), .int .i64 (b : Int)] w (GetsGB w.heap.size w N (adjL N (plusE P a b)) r) := by
  have hl : (adjL N P).length ≤ 1048576 := by rw [adjL_length]; omega
  cases hp : P a b with
  | false =>
    have hok : AddOk (N : Int) (adjL N P) (a : Int) (b : Int) := ⟨adj_graph h1 h7 hs, by omega, by omega, by omega, by rw [Int.toNat_natCast, Int.toNat_natCast, edB]; rw [adjL_bit N P a b ha hb, hp]; rfl⟩
    refine ⟨true, ?_⟩
    have h2 := specAddEdge_yes (N : Int) v (adjL N P) a b w h hl hnil hok
    rw [Int.toNat_natCast, Int.toNat_natCast, plus_new hs ha hb hab hp] at h2
    exact h2
  | true =>
    have hno : ¬ AddOk (N : Int) (adjL N P) (a : Int) (b : Int) := fun hok => by
      have := hok.2.2.2.2
      rw [Int.toNat_natCast, Int.toNat_natCast, edB, adjL_bit N P a b ha hb, hp] at this
      simp at this
    refine ⟨false, ?_⟩
    have h2 := specAddEdge_no (N : Int) v (adjL N P) a b w h hl hnil hno
    rw [plus_old hs ha hb hp] at h2
    exact h2

theorem pairS_adj (N : Nat) (P : Nat → Nat → Bool) (L : List Nat) {i m : Nat} (hm : m < i) (hi : i < L.length) : adjL N (plusE (pairS P L i m) (L.getD i 0) (L.getD m 0)) = adjL N (pairS P L i (m + 1)) :=
  adjL_congr N _ _ fun a _ b _ => (pairS_step P L hm hi a b).symm

set_option maxHeartbeats 4000000 in
set_option maxRecDepth 100000 in
theorem specGTree (v u : Value) (l m : List Int) (x : Int) (w : World) (h : Ints w v l) (g : Ints w u m) (hl : l.length ≤ 1048576) (hm : m.length ≤ 1048576) :
    Calls Try.prog 44 #[.agg #[v, u], .int .i64 x] w (GetsGB w.heap.size w (gtN l m x) (gtL l m x) (decide (GtP l m x))) := by
  obtain ⟨ad, cap, rfl, -, -⟩ := h.form
  obtain ⟨bd, cap', rfl, -, -⟩ := g.form
  have HI := Lib.hid h
  have HJ := Lib.hid g
  clear h g
  obtain ⟨w0, hw0⟩ : ∃ w0, w0 = (w.alloc (.cells #[.slice ad l.length cap, .slice bd m.length cap'] 58)) := ⟨_, rfl⟩
  have F0 := Lib.hid (show Below w.heap.size w w0 by rw [hw0]; exact (Below.refl _ w).alloc (Nat.le_refl _) _)
  have A0 := Lib.hid (show Box w.heap.size [.slice ad l.length cap, .slice bd m.length cap'] w0 by rw [hw0]; exact Box.new w _ _)
  have hz0 : w0.heap.size = w.heap.size + 1 := by rw [hw0]; simp
  obtain ⟨w1, hw1⟩ : ∃ w1, w1 = w0.alloc (.cells #[.int .i64 0, .slice none 0 0] 28) := ⟨_, rfl⟩
  have BL1 := Lib.hid (show Blank w0.heap.size w1 by rw [hw1]; exact Blank.new w0 _)
  have BB1 := Lib.hid (show Below w0.heap.size w0 w1 by rw [hw1]; exact (Below.refl _ w0).alloc (Nat.le_refl _) _)
  have A1 := Lib.hid (A0.out.on BB1.out)
  obtain ⟨nn, hnn⟩ : ∃ z, z = gtN l m x := ⟨_, rfl⟩
  obtain ⟨ll, hll⟩ : ∃ z, z = gtL l m x := ⟨_, rfl⟩
  obtain ⟨b, hbb⟩ : ∃ b, b = decide (GtP l m x) := ⟨_, rfl⟩
  rw [← hnn, ← hll, ← hbb]
  have HR := Lib.hid (show nn = gtN l m x ∧ ll = gtL l m x ∧ b = decide (GtP l m x) from ⟨hnn, hll, hbb⟩)
  clear hnn hll hbb
  have HOUT : Hid (∀ (W : World), Blank w0.heap.size W → Below w0.heap.size w0 W → ¬ GtP l m x → GetsGB w.heap.size w nn ll b (.returned (.tuple #[.agg #[.int .i64 0, .slice none 0 0], .bool false])) ((W.setCell ⟨w.heap.size + 1, 0, none⟩ (.int .i64 0)).setCell ⟨w.heap.size + 1, 1, none⟩ (.slice none 0 0))) := fun W hbl hbe hno => by
    obtain ⟨e1, e2, e3⟩ := gt_no hno
    rw [HR.out.1, HR.out.2.1, HR.out.2.2, e1, e2, e3]
    exact ⟨_, rfl, ⟨inI64_nil, World.ownsRow_nil _ _ _ _⟩, F0.out.trans (((hbe.setCell (p := ⟨w.heap.size + 1, 0, none⟩) (by show w0.heap.size ≤ w.heap.size + 1; omega) _).setCell (p := ⟨w.heap.size + 1, 1, none⟩) (by show w0.heap.size ≤ w.heap.size + 1; omega) _).mono F0.out.size)⟩
  have y0 : w1.cell? ⟨w.heap.size, 0, none⟩ = some (.slice ad l.length cap) := A1.out.1 0 _ rfl
  have y1 : w1.cell? ⟨w.heap.size, 1, none⟩ = some (.slice bd m.length cap') := A1.out.1 1 _ rfl
  go_enter Try.func44, Try.ntmps44
  go_wp2_with fail
  rw [← hw0, ← hw1]
  clear hw1 y0 y1
  refine (specIsTree _ _ l m _ (HI.out.on (F0.out.trans (BB1.out.mono F0.out.size))) (HJ.out.on (F0.out.trans (BB1.out.mono F0.out.size))) hl hm).mono ?_
  rintro e w2 ⟨r, rfl, hr, hb⟩
  have HRR := Lib.hid hr
  have BL2 := Lib.hid (BL1.out.keep (below_grown hb) (by simp))
  have BB2 := Lib.hid (BB1.out.trans (hb.mono BB1.out.size))
  have A2 := Lib.hid (A1.out.on hb)
  clear hr hb A1 BL1 BB1
  cases r with
  | false =>
    have HNO := Lib.hid (show ¬ GtP l m x from fun h => absurd (HRR.out.2 h.1) (by decide))
    obtain ⟨b0, b1, b2, b3, b4⟩ := BL2.out
    rw [hz0] at b0 b1 b2 b3 b4
    go_wp2
    refine bodyPost_ret (v := .tuple #[.agg #[.int .i64 0, .slice none 0 0], .bool false]) (by simp [results, Try.results44, go_sem, b0, b1, b2, b3, b4] <;> rfl) rfl ?_
    exact HOUT.out _ BL2.out BB2.out HNO.out
  | true =>
    have HT := Lib.hid (HRR.out.1 (by first | rfl | trivial))
    by_cases hx : 1 ≤ x ∧ x ≤ 7
    · obtain ⟨N, rfl⟩ : ∃ N : Nat, x = N := ⟨x.toNat, by omega⟩
      have hN1 : 1 ≤ N := by omega
      have hN7 : N ≤ 7 := by omega
      have hl20 := HT.out.1.2
      go_wp2_with fail
      refine (l1In_yes' _ _ _ _ hx.1 hx.2).mono ?_
      rintro e w3 ⟨rfl, rfl⟩
      have hmk := fun W : World => run_make_row' (P := Try.prog) 22 3 (.int .i64 0) 8 Try.underlying22 infoInt rfl .i64 .i64 N (by omega) (by omega) W
      obtain ⟨q, hq⟩ : ∃ q, q = w2.heap.size + 1 := ⟨_, rfl⟩
      obtain ⟨w3, hw3⟩ : ∃ w3, w3 = (w2.alloc (.cells (madeCells #[.int .i64 0] N) 3)).alloc (.cells #[.int .i64 N, .slice (some ⟨w2.heap.size, 0, none⟩) N N] 28) := ⟨_, rfl⟩
      have HC3 := Lib.hid (show CurQ w0 q N (adjL N (treeE l 0)) (.slice (some ⟨w2.heap.size, 0, none⟩) N N) w3 by
        rw [hw3, hq]
        have h := CurQ.init w0 w2 N (namR 5 N) hN7 BL2.out BB2.out
        have e : adjL N (partR (namR 5 N) 0 0) = adjL N (treeE l 0) := adjL_congr N _ _ fun i _ j _ => by
          unfold partR symR namR treeE
          split
          · rfl
          · split <;> rfl
        rw [e] at h
        exact h)
      go_upto_region 4 with fail
      rw [← hq, ← hw3]
      clear hmk hw3 hq
      go_wp2
      go_loopw [7] (fun c wr => ∃ (k : Nat) (u : Value), k ≤ l.length ∧ c = .int .i64 k ∧ Hid (CurQ w0 q N (adjL N (treeE l k)) u wr) ∧ Hid (∀ i, i < k → nth l i < 2 ^ N)) (fun c _ => l.length - (intOf c).toNat)
      case atStart => exact ⟨0, _, by omega, rfl, HC3.out, fun i hi => absurd hi (by omega)⟩
      case round =>
        clear HC3
        obtain ⟨k, u, hk, rfl, HC, HJ2⟩ := hrel
        have AR := Lib.hid (A0.out.on HC.out.2.2.2.1)
        have x0 : wr.cell? ⟨w.heap.size, 0, none⟩ = some (.slice ad l.length cap) := AR.out.1 0 _ rfl
        obtain ⟨b0, b1, b2, b3, b4⟩ := HC.out.2.2.1
        rw [hz0] at b0 b1 b2 b3 b4
        by_cases hlt : k < l.length
        · have FW := Lib.hid (F0.out.trans (HC.out.2.2.2.1.mono F0.out.size))
          obtain ⟨bb, off, cap1, hv, _, _, hbb, hcell⟩ := (HI.out.on FW.out).pos (by omega)
          simp only [Value.slice.injEq] at hv
          obtain ⟨rfl, -, rfl⟩ := hv
          obtain ⟨z, hz⟩ : ∃ z, z = nth l k := ⟨_, rfl⟩
          have e0 := hcell k hlt
          rw [← hz] at e0
          have hzr := (HT.out.2.2 k hlt).1
          rw [← hz] at hzr
          have HZ := Lib.hid hz
          obtain ⟨PP, eP, hP1, hP2⟩ : ∃ P, (2 : Int) ^ N = P ∧ 1 ≤ P ∧ P ≤ 128 := ⟨_, rfl, (shl_one' N (by omega)).2.2.2.2, (shl_one' N (by omega)).2.2.2.1⟩
          have g1 : IntKind.i64.wrap (1 * PP) = PP := IntWalk.i64_in _ (by omega) |>.trans (by omega)
          have g2 : IntKind.i64.wrap PP = PP := IntWalk.i64_in _ (by omega)
          have HP := Lib.hid eP
          clear hz
          by_cases hzP : PP ≤ z
          · have d0 : decide (PP ≤ z) = true := decide_eq_true hzP
            have HNO := Lib.hid (show ¬ GtP l m N from fun h => by
              have := h.2.2 k hlt
              rw [← HZ.out, Int.toNat_natCast, HP.out] at this
              omega)
            clear hzP hcell
            go_wp2
            go_quiet (fail)
            go_wp2
            refine bodyPost_ret (v := .tuple #[.agg #[.int .i64 0, .slice none 0 0], .bool false]) (by simp [results, Try.results44, go_sem, b0, b1, b2, b3, b4] <;> rfl) rfl ?_
            exact HOUT.out _ (HC.out.on (below_drewN (Below.refl _ _) _)).2.2.1 (HC.out.on (below_drewN (Below.refl _ _) _)).2.2.2.1 HNO.out
          · have d0 : decide (PP ≤ z) = false := decide_eq_false hzP
            obtain ⟨Z, rfl⟩ : ∃ Z : Nat, z = (Z : Int) := ⟨z.toNat, by omega⟩
            have hZ2 : Z < 2 ^ N := by have : (Z : Int) < 2 ^ N := by omega
                                       exact_mod_cast this
            have hZ7 : Z < 128 := by have := two_le N hN7; omega
            have HE := Lib.hid (show treeE l (k + 1) = joinP (treeE l k) Z by show joinP (treeE l k) (nth l k).toNat = _; rw [← HZ.out, Int.toNat_natCast])
            have HJ3 := Lib.hid (show ∀ i, i < k + 1 → nth l i < 2 ^ N from fun i hi => by
              rcases Nat.lt_or_ge i k with h | h
              · exact HJ2.out i h
              · obtain rfl : i = k := by omega
                rw [← HZ.out, HP.out]; omega)
            obtain ⟨LL, hLL⟩ : ∃ LL, LL = (memN Z).map fun v : Nat => (v : Int) := ⟨_, rfl⟩
            have HLL := Lib.hid (show listR (Z : Int) = LL by rw [hLL, ← listU_nat]; unfold listR; rw [if_pos (by omega)])
            have hLn : LL.length = (memN Z).length := by rw [hLL]; simp
            have HLn := Lib.hid hLn
            have hL7 : LL.length ≤ 7 := by rw [← HLL.out]; exact listR_length _
            have HLE : Hid (∀ p, p < LL.length → nth LL p = (((memN Z).getD p 0 : Nat) : Int) ∧ (memN Z).getD p 0 < N) := fun p hp => by
              refine ⟨by rw [hLL]; simp [nth, List.getD, show p < (memN Z).length by omega], ?_⟩
              exact bit_lt hZ2 (mem_memN (getD_mem (show p < (memN Z).length by omega))).2
            clear hcell hzP hLL hLn hZ2 hzr
            go_wp2
            go_quiet (fail)
            go_wp2_with fail
            refine (specListOf (Z : Int) _).mono ?_
            rintro e w5 ⟨vl, rfl, ho, hb⟩
            rw [HLL.out] at ho
            replace hb := (below_drewN (Below.refl wr.heap.size wr) _).trans hb
            have HC5 := Lib.hid (HC.out.on hb)
            obtain ⟨al, capl, rfl, -, hcl⟩ := ho.ints.form
            have HO5 := Lib.hid (show OwnI (q + 1) w5 (.slice al LL.length capl) LL from ho.mono (by have := HC.out.2.1.1.2.2; show q + 1 ≤ wr.heap.size; omega))
            unfold maxLen at hcl
            clear ho hb d0 e0 x0 b0 b1 b2 b3 b4 g1 g2
            go_wp2
            go_loopw [9] (fun c wy => ∃ (i : Nat) (u : Value), i ≤ LL.length ∧ c = .int .i64 i ∧ Hid (CurQ w0 q N (adjL N (pairS (treeE l k) (memN Z) i 0)) u wy) ∧ Hid (OwnI (q + 1) wy (.slice al LL.length capl) LL)) (fun c _ => LL.length - (intOf c).toNat)
            case atStart =>
              refine ⟨0, u, by omega, rfl, ?_, HO5.out⟩
              rw [adjL_congr N (pairS (treeE l k) (memN Z) 0 0) (treeE l k) fun a _ b _ => pairS_zero _ _ a b]
              exact HC5.out
            case round =>
              clear HC5 HO5 HC
              obtain ⟨i, u, hi, rfl, HC, HO⟩ := hrel
              by_cases hil : i < LL.length
              · go_wp2
                go_loopw [10] (fun c wy => ∃ (j : Nat) (u : Value), j ≤ i ∧ c = .int .i64 j ∧ Hid (CurQ w0 q N (adjL N (pairS (treeE l k) (memN Z) i j)) u wy) ∧ Hid (OwnI (q + 1) wy (.slice al LL.length capl) LL)) (fun c _ => i - (intOf c).toNat)
                case atStart => exact ⟨0, u, by omega, rfl, HC.out, HO.out⟩
                case round =>
                  clear HC HO
                  obtain ⟨j, u, hj, rfl, HC, HO⟩ := hrel
                  by_cases hji : j < i
                  · have hjl : j < LL.length := by omega
                    obtain ⟨b2, off2, cap2, hv, _, _, hb2, hcell2⟩ := HO.out.ints.pos (by omega)
                    simp only [Value.slice.injEq] at hv
                    obtain ⟨rfl, -, rfl⟩ := hv
                    obtain ⟨n1, n2⟩ := HLE.out i hil
                    obtain ⟨n3, n4⟩ := HLE.out j (by omega)
                    obtain ⟨A, hA⟩ : ∃ A, A = (memN Z).getD i 0 := ⟨_, rfl⟩
                    obtain ⟨B, hB⟩ : ∃ B, B = (memN Z).getD j 0 := ⟨_, rfl⟩
                    have d1 := hcell2 i hil
                    have d2 := hcell2 j (by omega)
                    rw [n1, ← hA] at d1
                    rw [n3, ← hB] at d2
                    rw [← hA] at n2
                    rw [← hB] at n4
                    have hAB : A ≠ B := fun e => by
                      rw [hA, hB] at e
                      have := getD_inj (memN_nodup Z) (by have := HLn.out; omega) (by have := HLn.out; omega) e
                      omega
                    obtain ⟨⟨c0, c1, cz⟩, c2, c3⟩ := HC.out.2.1
                    have HCD := Lib.hid (HC.out.on ((Below.refl wr.heap.size wr).drew))
                    obtain ⟨r, hcall⟩ := specPlus N (pairS (treeE l k) (memN Z) i j) u A B wr.drew HCD.out.1.ints HCD.out.1.nilform hN1 hN7 (pairS_sym (treeE_sym N l k) (memN_nodup Z) i j) n2 n4 hAB
                    rw [hA, hB, pairS_adj N _ _ hji (by have := HLn.out; omega), ← hA, ← hB] at hcall
                    have HCALL := Lib.hid hcall
                    obtain ⟨au, capu, hu, -, -⟩ := HC.out.1.ints.form
                    have HU := Lib.hid hu
                    clear hcell2 n1 n3 hA hB hcall hu
                    go_wp2
                    go_region_with (go_at_call 82; refine HCALL.out.mono ?_; rintro e w6 ⟨v6, rfl, ho6, hb6⟩; obtain ⟨a6, cap6, rfl, -, -⟩ := ho6.ints.form; obtain ⟨⟨g0, g1, gz⟩, g2, g3⟩ := HCD.out.2.1.keep (below_grown hb6) (by simp))
                    all_goals
                      have HC6 := Lib.hid (HCD.out.next ho6 hb6)
                      have HO6 := Lib.hid ((((HO.out.on ((Below.refl wr.heap.size wr).drew)).on hb6).setBelow (a := ⟨q, 0, none⟩) (by show q < q + 1; omega) (.int .i64 N)).setBelow (a := ⟨q, 1, none⟩) (by show q < q + 1; omega) (.slice a6 (adjL N (pairS (treeE l k) (memN Z) i (j + 1))).length cap6))
                      clear ho6 hb6 c0 c1 cz c2 c3 d1 d2
                      go_wp2
                      go_roundw
                      case rel => exact ⟨j + 1, _, by omega, by go_num, HC6.out, HO6.out⟩
                      case measure => simp [intOf]; omega
                  · obtain rfl : j = i := by omega
                    have HY := Lib.hid (show adjL N (pairS (treeE l k) (memN Z) (j + 1) 0) = adjL N (pairS (treeE l k) (memN Z) j j) from adjL_congr N _ _ fun a _ b _ => (pairS_next _ _ j a b).symm)
                    go_wp2
                    go_roundw
                    case rel => exact ⟨j + 1, u, by omega, by go_num, by rw [HY.out]; exact HC.out, HO.out⟩
                    case measure => simp [intOf]; omega
              · obtain rfl : i = LL.length := by omega
                have HY := Lib.hid (show adjL N (treeE l (k + 1)) = adjL N (pairS (treeE l k) (memN Z) LL.length 0) by rw [HE.out, HLn.out]; exact adjL_congr N _ _ fun a _ b _ => (pairS_all _ hZ7 a b).symm)
                go_wp2
                go_roundw
                case rel => exact ⟨k + 1, u, by omega, by go_num, by rw [HY.out]; exact HC.out, HJ3.out⟩
                case measure => simp [intOf]; omega
        · obtain rfl : k = l.length := by omega
          have HYES := Lib.hid (show GtP l m N from ⟨HT.out, hx, fun i hi => by simpa using HJ2.out i hi⟩)
          obtain ⟨e1, e2, e3⟩ := gt_yes HYES.out
          have HE := Lib.hid (show nn = N ∧ ll = adjL N (treeE l l.length) ∧ b = true by rw [HR.out.1, HR.out.2.1, HR.out.2.2, e1, e2, e3]; exact ⟨rfl, rfl, rfl⟩)
          obtain ⟨⟨c0, c1, cz⟩, c2, c3⟩ := HC.out.2.1
          have hfu := HC.out.1.ints.form
          obtain ⟨au, capu, rfl, -, -⟩ := hfu
          rw [adjL_length] at HC c1
          clear e1 e2 e3
          go_wp2
          refine bodyPost_ret (v := .tuple #[.agg #[.int .i64 N, .slice au N capu], .bool true]) (by simp [results, Try.results44, go_sem, b0, b1, b2, b3, b4] <;> rfl) rfl ?_
          rw [HE.out.1, HE.out.2.1, HE.out.2.2]
          refine ⟨_, rfl, ?_, ?_⟩
          · exact ((HC.out.1.setBelow (a := ⟨w.heap.size + 1, 0, none⟩) (by show w.heap.size + 1 < w0.heap.size + 1; omega) _).setBelow (a := ⟨w.heap.size + 1, 1, none⟩) (by show w.heap.size + 1 < w0.heap.size + 1; omega) _).mono (by omega)
          · exact F0.out.trans (((HC.out.2.2.2.1.setCell (p := ⟨w.heap.size + 1, 0, none⟩) (by show w0.heap.size ≤ w.heap.size + 1; omega) _).setCell (p := ⟨w.heap.size + 1, 1, none⟩) (by show w0.heap.size ≤ w.heap.size + 1; omega) _).mono F0.out.size)
    · have HNO := Lib.hid (show ¬ GtP l m x from fun h => hx h.2.1)
      obtain ⟨b0, b1, b2, b3, b4⟩ := BL2.out
      rw [hz0] at b0 b1 b2 b3 b4
      go_wp2_with fail
      refine (l1In_no' _ _ _ _ hx).mono ?_
      rintro e w3 ⟨rfl, rfl⟩
      go_wp2
      refine bodyPost_ret (v := .tuple #[.agg #[.int .i64 0, .slice none 0 0], .bool false]) (by simp [results, Try.results44, go_sem, b0, b1, b2, b3, b4] <;> rfl) rfl ?_
      exact HOUT.out _ BL2.out BB2.out HNO.out

end Go.Proofs.Ytcpchdnhhjhpaaa
