/- IsOrientation. -/
import Derived.Test.YtcpchdnhhjhpaaaY5
import Derived.Test.YtcpchdnhhjhpaaaS3
import Derived.Test.YtcpchdnhhjhpaaaG4
import Derived.Test.YtcpchdnhhjhpaaaBx
namespace Go.Proofs.Ytcpchdnhhjhpaaa
set_option linter.unusedVariables false
set_option linter.unusedSimpArgs false
open Go.RowKit

set_option maxHeartbeats 4000000 in
set_option maxRecDepth 100000 in
theorem implOri (n : Int) (v u : Value) (l T : List Int) (w : World) (h : Ints w v l) (g : Ints w u T) (hT : T.length ≤ 1048576) :
    Calls Try.prog 148 #[.agg #[.int .i64 n, v], .agg #[u]] w (SaysB (OriI n l T) w) := by
  obtain ⟨ad, cap, rfl, -, -⟩ := h.form
  obtain ⟨bd, cap', rfl, -, -⟩ := g.form
  have HI := Lib.hid h
  have HJ := Lib.hid g
  clear h g
  have F0 := Lib.hid (show Below w.heap.size w ((w.alloc (.cells #[.int .i64 n, .slice ad l.length cap] 28)).alloc (.cells #[.slice bd T.length cap'] 79)) from ((Below.refl _ w).alloc (Nat.le_refl _) _).alloc (by simp) _)
  have A0 := Lib.hid (show Box w.heap.size [.int .i64 n, .slice ad l.length cap] ((w.alloc (.cells #[.int .i64 n, .slice ad l.length cap] 28)).alloc (.cells #[.slice bd T.length cap'] 79)) from (Box.new w _ _).keep (grown_alloc _ _ none) (by simp))
  have C0 := Lib.hid (show Box (w.heap.size + 1) [.slice bd T.length cap'] ((w.alloc (.cells #[.int .i64 n, .slice ad l.length cap] 28)).alloc (.cells #[.slice bd T.length cap'] 79)) by have h := Box.new (w.alloc (.cells #[.int .i64 n, .slice ad l.length cap] 28)) 79 [.slice bd T.length cap']; simpa using h)
  go_enter Try.func148, Try.ntmps148
  go_wp2_with fail
  refine (implIsG_any n _ l _ (HI.out.on F0.out)).mono ?_
  rintro e w1 ⟨r, rfl, hr, hb⟩
  have F1 := Lib.hid (F0.out.trans (hb.mono F0.out.size))
  have A1 := Lib.hid (A0.out.on hb)
  have C1 := Lib.hid (C0.out.on hb)
  have HR := Lib.hid hr
  clear hr hb A0 C0 F0
  have x0 : w1.cell? ⟨w.heap.size, 0, none⟩ = some (.int .i64 n) := (A1.out).1 0 _ rfl
  have x1 : w1.cell? ⟨w.heap.size, 1, none⟩ = some (.slice ad l.length cap) := (A1.out).1 1 _ rfl
  have y0 : w1.cell? ⟨w.heap.size + 1, 0, none⟩ = some (.slice bd T.length cap') := (C1.out).1 0 _ rfl
  cases r with
  | false =>
    go_wp2
    go_ret
    exact SaysB.no (fun h => absurd (HR.out.2 h.1) (by decide)) F1.out
  | true =>
    have HG := Lib.hid (HR.out.1 (by first | rfl | trivial))
    have hnl := HG.out.2.2.1
    have hn7 := HG.out.2.1
    by_cases k1 : T.length = l.length
    · have d1 : ((T.length : Int) != n) = false := by rw [bne_eq_false_iff_eq]; omega
      have hle : T.length ≤ l.length := by omega
      have hge : l.length ≤ T.length := by omega
      have h7 : l.length ≤ 7 := by omega
      have hnle : n ≤ (l.length : Int) := by omega
      have hnge : (l.length : Int) ≤ n := by omega
      have HK := Lib.hid k1
      clear k1 hnl
      go_wp2
      clear x0 x1 y0
      go_loopw [25] (fun i wr => ∃ j : Nat, j ≤ T.length ∧ i = .int .i64 j ∧ Below w1.heap.size w1 wr ∧ Hid (∀ v, v < j → bits .andNot .i64 (nth T v) (nth l v) = 0)) (fun i _ => T.length - (intOf i).toNat)
      case atStart => exact ⟨0, by omega, rfl, Below.refl _ _, fun i hi => absurd hi (by omega)⟩
      case round =>
        obtain ⟨j, hj, rfl, hbel, HO⟩ := hrel
        have hB := F1.out.trans (hbel.mono F1.out.size)
        have HW := Lib.hid hB
        have HBL := Lib.hid hbel
        have x0 : wr.cell? ⟨w.heap.size, 0, none⟩ = some (.int .i64 n) := (A1.out.on hbel).1 0 _ rfl
        have x1 : wr.cell? ⟨w.heap.size, 1, none⟩ = some (.slice ad l.length cap) := (A1.out.on hbel).1 1 _ rfl
        have y0 : wr.cell? ⟨w.heap.size + 1, 0, none⟩ = some (.slice bd T.length cap') := (C1.out.on hbel).1 0 _ rfl
        by_cases hlt : j < T.length
        · have hltl : j < l.length := by omega
          obtain ⟨b, off, cap1, hv, _, _, hb, hcell⟩ := (HI.out.on hB).pos (by omega)
          simp only [Value.slice.injEq] at hv
          obtain ⟨rfl, -, rfl⟩ := hv
          obtain ⟨y, hy⟩ : ∃ z, z = nth l j := ⟨_, rfl⟩
          have c2 := hcell j hltl
          rw [← hy] at c2
          have Hy := Lib.hid hy
          obtain ⟨b', off', cap1', hv, _, _, hb', hcell'⟩ := (HJ.out.on hB).pos (by omega)
          simp only [Value.slice.injEq] at hv
          obtain ⟨rfl, -, rfl⟩ := hv
          obtain ⟨x, hx⟩ : ∃ z, z = nth T j := ⟨_, rfl⟩
          have c1 := hcell' j (by omega)
          rw [← hx] at c1
          have Hx := Lib.hid hx
          clear hx
          obtain ⟨t, ht⟩ : ∃ t, t = bits .andNot .i64 x y := ⟨_, rfl⟩
          have e1 : bits .andNot .i64 x y = t := ht.symm
          have HT := Lib.hid (show t = bits .andNot .i64 (nth T j) (nth l j) by rw [ht, Hx.out, Hy.out])
          clear hcell hcell' hy ht hB
          by_cases ht0 : t = 0
          · have d3 : (t != 0) = false := by simp [ht0]
            have HN : Hid (∀ v, v < j + 1 → bits .andNot .i64 (nth T v) (nth l v) = 0) := fun v hv => by
              rcases Nat.lt_or_ge v j with h | h
              · exact HO.out v h
              · obtain rfl : v = j := by omega
                rw [← HT.out]; exact ht0
            clear HO ht0
            go_wp2
            go_roundw
            case rel => exact ⟨j + 1, by omega, by go_num, hbel, HN.out⟩
            case measure => simp [intOf]; omega
          · have d3 : (t != 0) = true := by simp [ht0]
            have HN := Lib.hid (show ¬ OriI n l T from fun h => ht0 (by rw [HT.out]; exact h.2.2.1 j hltl))
            clear ht0
            go_wp2
            go_ret
            exact SaysB.no HN.out HW.out
        · obtain rfl : j = T.length := by omega
          clear hB hbel
          go_wp2_with fail
          refine (implEdges n _ l _ (HI.out.on HW.out)).mono ?_
          rintro e w3 ⟨ve, rfl, ho, hb3⟩
          obtain ⟨vs, hov⟩ := ho
          have HE := Lib.hid hov
          have HB3 := Lib.hid (HBL.out.trans (hb3.mono HBL.out.size))
          have HW3 := Lib.hid (HW.out.trans (hb3.mono HW.out.size))
          obtain ⟨E, hE⟩ : ∃ E, E = edgesR n l := ⟨_, rfl⟩
          have HEE := Lib.hid hE
          rw [← hE] at HE
          have hE49 : E.length ≤ 49 := by rw [hE]; exact edgesR_length n l
          have hform : ∃ a cap, ve = .slice a E.length cap := by
            rcases HE.out.form with ⟨rfl, h0⟩ | ⟨g, cap, rfl, -⟩
            · exact ⟨none, 0, by rw [h0]; rfl⟩
            · exact ⟨_, cap, rfl⟩
          obtain ⟨ae, cape, rfl⟩ := hform
          clear hb3 hov hE x0 x1 y0
          go_wp2
          go_loopw [42] (fun i wr => ∃ k : Nat, k ≤ E.length ∧ i = .int .i64 k ∧ Below w3.heap.size w3 wr ∧ Hid (∀ q, q < k → obit T (nth (subL E q) 0).toNat (nth (subL E q) 1).toNat ≠ obit T (nth (subL E q) 1).toNat (nth (subL E q) 0).toNat)) (fun i _ => E.length - (intOf i).toNat)
          case atStart => exact ⟨0, by omega, rfl, Below.refl _ _, fun i hi => absurd hi (by omega)⟩
          case round =>
            obtain ⟨k, hk, rfl, hbel, HO2⟩ := hrel
            have HB5 := Lib.hid (HB3.out.trans (hbel.mono HB3.out.size))
            have HW5 := Lib.hid (HW3.out.trans (hbel.mono HW3.out.size))
            by_cases hltk : k < E.length
            · have y0 : wr.cell? ⟨w.heap.size + 1, 0, none⟩ = some (.slice bd T.length cap') := (C1.out.on HB5.out).1 0 _ rfl
              obtain ⟨a, b, hab, hbl, -, hs⟩ := edges_mem HG.out k (by rw [← HEE.out]; exact hltk)
              rw [← HEE.out] at hs
              rcases HE.out.form with ⟨-, h0⟩ | ⟨ge, cape2, hv, hge, -, -, hcell⟩
              · rw [h0] at hltk; simp at hltk
              simp only [Value.slice.injEq] at hv
              obtain ⟨rfl, -, rfl⟩ := hv
              have c0 : wr.cell? ⟨ge, k, none⟩ = some (elt vs k) := (hbel.cell (p := ⟨ge, k, none⟩) hge).trans (hcell k hltk)
              have HEL := ((HE.out.2.2.1 k hltk).on hbel).ints
              rw [hs] at HEL
              obtain ⟨z, hz⟩ : ∃ z, z = elt vs k := ⟨_, rfl⟩
              rw [← hz] at c0 HEL
              obtain ⟨be, offe, cape3, rfl, _, _, hbe, hce⟩ := HEL.pos (by simp)
              have f0 : wr.cell? ⟨be, offe, none⟩ = some (.int .i64 (nth [(a : Int), (b : Int)] 0)) := hce 0 (by simp)
              have f1 : wr.cell? ⟨be, offe + 1, none⟩ = some (.int .i64 (nth [(a : Int), (b : Int)] 1)) := hce 1 (by simp)
              have n0 : nth [(a : Int), (b : Int)] 0 = a := by simp [nth]
              have n1 : nth [(a : Int), (b : Int)] 1 = b := by simp [nth]
              rw [n0] at f0
              rw [n1] at f1
              have hB := HW5.out
              have haT : a < T.length := by omega
              have hbT : b < T.length := by omega
              have ha64 : (a : Int) < 64 := by omega
              have hb64 : (b : Int) < 64 := by omega
              obtain ⟨b', off', cap1', hv, _, _, hb', hcell'⟩ := (HJ.out.on hB).pos (by omega)
              simp only [Value.slice.injEq] at hv
              obtain ⟨rfl, -, rfl⟩ := hv
              obtain ⟨x, hx⟩ : ∃ z, z = nth T a := ⟨_, rfl⟩
              have c1 := hcell' a (by omega)
              rw [← hx] at c1
              have Hx := Lib.hid hx
              clear hx
              obtain ⟨y, hy⟩ : ∃ z, z = nth T b := ⟨_, rfl⟩
              have c2 := hcell' b (by omega)
              rw [← hy] at c2
              have Hy := Lib.hid hy
              obtain ⟨t1, ht1⟩ : ∃ t, t = bitAt x b := ⟨_, rfl⟩
              have e1 : bits .and .i64 (x / 2 ^ b) 1 = t1 := by rw [ht1]; exact and_one_bit x b
              obtain ⟨t2, ht2⟩ : ∃ t, t = bitAt y a := ⟨_, rfl⟩
              have e2 : bits .and .i64 (y / 2 ^ a) 1 = t2 := by rw [ht2]; exact and_one_bit y a
              have HQ := Lib.hid (show (obit T (nth (subL E k) 0).toNat (nth (subL E k) 1).toNat ≠ obit T (nth (subL E k) 1).toNat (nth (subL E k) 0).toNat) ↔ t1 ≠ t2 by
                rw [hs, n0, n1, Int.toNat_natCast, Int.toNat_natCast, ht1, ht2, Hx.out, hy]
                unfold obit
                rcases bitAt_two (nth T a) b with h1 | h1 <;> rcases bitAt_two (nth T b) a with h2 | h2 <;> rw [h1, h2] <;> decide)
              clear hcell hcell' hy ht1 ht2 hB hz hs HEL hce n0 n1
              have hl2 : (2 : Nat) = [(a : Int), (b : Int)].length := rfl
              simp only [List.length_cons, List.length_nil] at *
              by_cases ht : t1 = t2
              · have d3 : (t1 == t2) = true := by simp [ht]
                have HN := Lib.hid (show ¬ OriI n l T from fun h => by
                  have h3 := h.2.2.2 k (by rw [← HEE.out]; exact hltk)
                  rw [← HEE.out] at h3
                  exact HQ.out.1 h3 ht)
                clear ht
                go_wp2
                go_quiet (fail)
                go_wp2
                go_quiet (fail)
                go_wp2
                go_ret
                exact SaysB.no HN.out (below_drewN (below_drewN HW5.out _) _)
              · have d3 : (t1 == t2) = false := by simp [ht]
                have HN : Hid (∀ q, q < k + 1 → obit T (nth (subL E q) 0).toNat (nth (subL E q) 1).toNat ≠ obit T (nth (subL E q) 1).toNat (nth (subL E q) 0).toNat) := fun q hq => by
                  rcases Nat.lt_or_ge q k with h | h
                  · exact HO2.out q h
                  · obtain rfl : q = k := by omega
                    exact HQ.out.2 ht
                clear ht HO2
                go_wp2
                go_quiet (fail)
                go_wp2
                go_quiet (fail)
                go_wp2
                go_roundw
                case rel => exact ⟨k + 1, by omega, by go_num, below_drewN hbel _, HN.out⟩
                case measure => simp [intOf]; omega
            · obtain rfl : k = E.length := by omega
              have HN := Lib.hid (show OriI n l T from ⟨HG.out, HK.out, fun v hv => HO.out v (by omega), by rw [← HEE.out]; exact HO2.out⟩)
              go_wp2
              go_ret
              exact SaysB.yes HN.out HW5.out
    · have d1 : ((T.length : Int) != n) = true := by rw [bne_iff_ne]; omega
      have HK := Lib.hid k1
      clear k1 hnl
      go_wp2
      go_ret
      exact SaysB.no (fun h => HK.out h.2.1) F1.out

set_option maxHeartbeats 4000000 in
set_option maxRecDepth 100000 in
theorem specOri (n : Int) (v u : Value) (l T : List Int) (w : World) (h : Ints w v l) (g : Ints w u T) (hT : T.length ≤ 1048576) :
    Calls Try.prog 147 #[.agg #[.int .i64 n, v], .agg #[u]] w (SaysB (OriP n l T) w) := by
  obtain ⟨ad, cap, rfl, -, -⟩ := h.form
  obtain ⟨bd, cap', rfl, -, -⟩ := g.form
  have HI := Lib.hid h
  have HJ := Lib.hid g
  clear h g
  have F0 := Lib.hid (show Below w.heap.size w ((w.alloc (.cells #[.int .i64 n, .slice ad l.length cap] 28)).alloc (.cells #[.slice bd T.length cap'] 79)) from ((Below.refl _ w).alloc (Nat.le_refl _) _).alloc (by simp) _)
  have A0 := Lib.hid (show Box w.heap.size [.int .i64 n, .slice ad l.length cap] ((w.alloc (.cells #[.int .i64 n, .slice ad l.length cap] 28)).alloc (.cells #[.slice bd T.length cap'] 79)) from (Box.new w _ _).keep (grown_alloc _ _ none) (by simp))
  have C0 := Lib.hid (show Box (w.heap.size + 1) [.slice bd T.length cap'] ((w.alloc (.cells #[.int .i64 n, .slice ad l.length cap] 28)).alloc (.cells #[.slice bd T.length cap'] 79)) by have h := Box.new (w.alloc (.cells #[.int .i64 n, .slice ad l.length cap] 28)) 79 [.slice bd T.length cap']; simpa using h)
  go_enter Try.func147, Try.ntmps147
  go_wp2_with fail
  refine (specIsG_any n _ l _ (HI.out.on F0.out)).mono ?_
  rintro e w1 ⟨r, rfl, hr, hb⟩
  have F1 := Lib.hid (F0.out.trans (hb.mono F0.out.size))
  have A1 := Lib.hid (A0.out.on hb)
  have C1 := Lib.hid (C0.out.on hb)
  have HR := Lib.hid hr
  clear hr hb A0 C0 F0
  have x0 : w1.cell? ⟨w.heap.size, 0, none⟩ = some (.int .i64 n) := (A1.out).1 0 _ rfl
  have x1 : w1.cell? ⟨w.heap.size, 1, none⟩ = some (.slice ad l.length cap) := (A1.out).1 1 _ rfl
  have y0 : w1.cell? ⟨w.heap.size + 1, 0, none⟩ = some (.slice bd T.length cap') := (C1.out).1 0 _ rfl
  cases r with
  | false =>
    go_wp2
    go_ret
    exact SaysB.no (fun h => absurd (HR.out.2 h.1) (by decide)) F1.out
  | true =>
    have HG := Lib.hid (HR.out.1 (by first | rfl | trivial))
    have hnl := HG.out.2.2.1
    have hn7 := HG.out.2.1
    by_cases k1 : T.length = l.length
    · have d1 : ((T.length : Int) != n) = false := by rw [bne_eq_false_iff_eq]; omega
      have hle : T.length ≤ l.length := by omega
      have hge : l.length ≤ T.length := by omega
      have h7 : l.length ≤ 7 := by omega
      have hnle : n ≤ (l.length : Int) := by omega
      have hnge : (l.length : Int) ≤ n := by omega
      have HK := Lib.hid k1
      clear k1 hnl
      obtain ⟨N, hN⟩ : ∃ N, N = 2 ^ l.length := ⟨_, rfl⟩
      have hnn : n.toNat = l.length := by omega
      have p1 : (2 : Int) ^ n.toNat = (N : Int) := by rw [hN, hnn]; push_cast; rfl
      have hN1 : 1 ≤ N := by rw [hN]; exact Nat.pow_pos (by decide)
      have hN7 : N ≤ 128 := by rw [hN]; exact two_le _ h7
      have q1 : IntKind.i64.wrap (1 * (N : Int)) = N := IntWalk.i64_in _ (by omega) |>.trans (by omega)
      have HNN := Lib.hid hN
      clear hN hnn
      go_wp2
      clear x0 x1 y0
      go_loopw [5] (fun i wr => ∃ j : Nat, j ≤ l.length ∧ i = .int .i64 j ∧ Below w1.heap.size w1 wr ∧ Hid (∀ v, v < j → 0 ≤ nth T v ∧ nth T v < (N : Int))) (fun i _ => l.length - (intOf i).toNat)
      case atStart => exact ⟨0, by omega, rfl, Below.refl _ _, fun i hi => absurd hi (by omega)⟩
      case round =>
        obtain ⟨j, hj, rfl, hbel, HO⟩ := hrel
        have hB := F1.out.trans (hbel.mono F1.out.size)
        have HW := Lib.hid hB
        have HBL := Lib.hid hbel
        have x0 : wr.cell? ⟨w.heap.size, 0, none⟩ = some (.int .i64 n) := (A1.out.on hbel).1 0 _ rfl
        have x1 : wr.cell? ⟨w.heap.size, 1, none⟩ = some (.slice ad l.length cap) := (A1.out.on hbel).1 1 _ rfl
        have y0 : wr.cell? ⟨w.heap.size + 1, 0, none⟩ = some (.slice bd T.length cap') := (C1.out.on hbel).1 0 _ rfl
        by_cases hlt : j < l.length
        · have hltT : j < T.length := by omega
          have hji : (j : Int) < n := by omega
          obtain ⟨b', off', cap1', hv, _, _, hb', hcell'⟩ := (HJ.out.on hB).pos (by omega)
          simp only [Value.slice.injEq] at hv
          obtain ⟨rfl, -, rfl⟩ := hv
          obtain ⟨x, hx⟩ : ∃ z, z = nth T j := ⟨_, rfl⟩
          have c1 := hcell' j (by omega)
          rw [← hx] at c1
          have Hx := Lib.hid hx
          clear hx
          clear hcell' hB
          by_cases g0 : x < 0
          · have d2 : decide (x < 0) = true := by simp [g0]
            have HN := Lib.hid (show ¬ OriP n l T from fun h => by have h1 := (h.2.2.1 j hlt).1; rw [← Hx.out] at h1; omega)
            clear g0
            go_wp2
            go_quiet (fail)
            go_wp2
            go_ret
            exact SaysB.no HN.out (below_drewN HW.out _)
          · have d2 : decide (x < 0) = false := by simp; omega
            by_cases g1 : (N : Int) ≤ x
            · have d3 : decide ((N : Int) ≤ x) = true := by simp [g1]
              have HN := Lib.hid (show ¬ OriP n l T from fun h => by have h1 := (h.2.2.1 j hlt).2; rw [← Hx.out, ← HNN.out] at h1; omega)
              clear g0 g1
              go_wp2
              go_quiet (fail)
              go_wp2
              go_ret
              exact SaysB.no HN.out (below_drewN HW.out _)
            · have d3 : decide ((N : Int) ≤ x) = false := by simp; omega
              have HN : Hid (∀ v, v < j + 1 → 0 ≤ nth T v ∧ nth T v < (N : Int)) := fun v hv => by
                rcases Nat.lt_or_ge v j with h | h
                · exact HO.out v h
                · obtain rfl : v = j := by omega
                  rw [← Hx.out]; omega
              clear g0 g1 HO
              go_wp2
              go_quiet (fail)
              go_wp2
              go_roundw
              case rel => exact ⟨j + 1, by omega, by go_num, below_drewN hbel _, HN.out⟩
              case measure => simp [intOf]; omega
        · obtain rfl : j = l.length := by omega
          clear hB hbel p1 q1
          go_wp2
          clear x0 x1 y0
          go_loopw [6] (fun i w2 => ∃ a : Nat, a ≤ l.length ∧ i = .int .i64 a ∧ Below w1.heap.size w1 w2 ∧ Hid (∀ v, v < a → ∀ b, b < l.length → edB l v b = (obit T v b || obit T b v) ∧ (obit T v b && obit T b v) = false)) (fun i _ => l.length - (intOf i).toNat)
          case atStart => exact ⟨0, by omega, rfl, HBL.out, fun i hi => absurd hi (by omega)⟩
          case round =>
            clear HBL HW
            obtain ⟨a, ha, rfl, hbel, HO2⟩ := hrel
            have HW := Lib.hid (F1.out.trans (hbel.mono F1.out.size))
            have HBL := Lib.hid hbel
            by_cases hlta : a < l.length
            · have hai : (a : Int) < n := by omega
              have x0 : wr.cell? ⟨w.heap.size, 0, none⟩ = some (.int .i64 n) := (A1.out.on hbel).1 0 _ rfl
              have x1 : wr.cell? ⟨w.heap.size, 1, none⟩ = some (.slice ad l.length cap) := (A1.out.on hbel).1 1 _ rfl
              have y0 : wr.cell? ⟨w.heap.size + 1, 0, none⟩ = some (.slice bd T.length cap') := (C1.out.on hbel).1 0 _ rfl
              clear hbel
              go_wp2
              clear x0 x1 y0
              go_loopw [7] (fun i w3 => ∃ b : Nat, b ≤ l.length ∧ i = .int .i64 b ∧ Below w1.heap.size w1 w3 ∧ Hid (∀ c, c < b → edB l a c = (obit T a c || obit T c a) ∧ (obit T a c && obit T c a) = false)) (fun i _ => l.length - (intOf i).toNat)
              case atStart => exact ⟨0, by omega, rfl, HBL.out, fun i hi => absurd hi (by omega)⟩
              case round =>
                clear HBL HW
                obtain ⟨b, hbl, rfl, hbel, HO3⟩ := hrel
                have hB := F1.out.trans (hbel.mono F1.out.size)
                have HW := Lib.hid hB
                have HBL := Lib.hid hbel
                have x0 : wr.cell? ⟨w.heap.size, 0, none⟩ = some (.int .i64 n) := (A1.out.on hbel).1 0 _ rfl
                have x1 : wr.cell? ⟨w.heap.size, 1, none⟩ = some (.slice ad l.length cap) := (A1.out.on hbel).1 1 _ rfl
                have y0 : wr.cell? ⟨w.heap.size + 1, 0, none⟩ = some (.slice bd T.length cap') := (C1.out.on hbel).1 0 _ rfl
                by_cases hltb : b < l.length
                · have hbi : (b : Int) < n := by omega
                  have haT : a < T.length := by omega
                  have hbT : b < T.length := by omega
                  have ha64 : (a : Int) < 64 := by omega
                  have hb64 : (b : Int) < 64 := by omega
                  obtain ⟨b', off', cap1', hv, _, _, hb', hcell'⟩ := (HJ.out.on hB).pos (by omega)
                  simp only [Value.slice.injEq] at hv
                  obtain ⟨rfl, -, rfl⟩ := hv
                  obtain ⟨x, hx⟩ : ∃ z, z = nth T a := ⟨_, rfl⟩
                  have c1 := hcell' a (by omega)
                  rw [← hx] at c1
                  have Hx := Lib.hid hx
                  clear hx
                  obtain ⟨y, hy⟩ : ∃ z, z = nth T b := ⟨_, rfl⟩
                  have c2 := hcell' b (by omega)
                  rw [← hy] at c2
                  have Hy := Lib.hid hy
                  obtain ⟨t1, ht1⟩ : ∃ t, t = bitAt x b := ⟨_, rfl⟩
                  have e1 : bits .and .i64 (x / 2 ^ b) 1 = t1 := by rw [ht1]; exact and_one_bit x b
                  have z1 : t1 = 0 ∨ t1 = 1 := by rw [ht1]; exact bitAt_two _ _
                  obtain ⟨t2, ht2⟩ : ∃ t, t = bitAt y a := ⟨_, rfl⟩
                  have e2 : bits .and .i64 (y / 2 ^ a) 1 = t2 := by rw [ht2]; exact and_one_bit y a
                  have z2 : t2 = 0 ∨ t2 = 1 := by rw [ht2]; exact bitAt_two _ _
                  have HO1 := Lib.hid (show obit T a b = decide (t1 = 1) by unfold obit; rw [ht1, Hx.out])
                  have HO4 := Lib.hid (show obit T b a = decide (t2 = 1) by unfold obit; rw [ht2, hy])
                  obtain ⟨E, hE⟩ : ∃ E, E = edB l a b := ⟨_, rfl⟩
                  have HE := Lib.hid hE
                  have HGO : Hid (edB l a b = (obit T a b || obit T b a) ∧ (obit T a b && obit T b a) = false → ∀ c, c < b + 1 → edB l a c = (obit T a c || obit T c a) ∧ (obit T a c && obit T c a) = false) := fun h c hc => by
                    rcases Nat.lt_or_ge c b with h' | h'
                    · exact HO3.out c h'
                    · obtain rfl : c = b := by omega
                      exact h
                  have HNO : Hid (¬ (edB l a b = (obit T a b || obit T b a) ∧ (obit T a b && obit T b a) = false) → ¬ OriP n l T) := fun h h' => h (h'.2.2.2 a hlta b hltb)
                  clear hcell' hy ht1 ht2 hB hbel hE
                  rcases z1 with rfl | rfl <;> rcases z2 with rfl | rfl
                  all_goals
                    go_wp2_with fail
                    refine (l2Edge_is n _ l a b _ (HI.out.on HW.out) hlta (by omega)).mono ?_
                    rintro e w5 ⟨rfl, hb5⟩
                    have HB5 := Lib.hid (HBL.out.trans (hb5.mono HBL.out.size))
                    have HW5 := Lib.hid (F1.out.trans (HB5.out.mono F1.out.size))
                    rw [← HE.out]
                    clear hb5
                    cases E with
                    | false =>
                      first
                        | (have HN := Lib.hid (HGO.out (by rw [← HE.out, HO1.out, HO4.out]; decide))
                           go_wp2
                           go_roundw
                           case rel => exact ⟨b + 1, by omega, by go_num, HB5.out, HN.out⟩
                           case measure => simp [intOf]; omega)
                        | (have HN := Lib.hid (HNO.out (by rw [← HE.out, HO1.out, HO4.out]; decide))
                           go_wp2
                           go_ret
                           exact SaysB.no HN.out HW5.out)
                    | true =>
                      first
                        | (have HN := Lib.hid (HGO.out (by rw [← HE.out, HO1.out, HO4.out]; decide))
                           go_wp2
                           go_roundw
                           case rel => exact ⟨b + 1, by omega, by go_num, HB5.out, HN.out⟩
                           case measure => simp [intOf]; omega)
                        | (have HN := Lib.hid (HNO.out (by rw [← HE.out, HO1.out, HO4.out]; decide))
                           go_wp2
                           go_ret
                           exact SaysB.no HN.out HW5.out)
                · obtain rfl : b = l.length := by omega
                  have HN : Hid (∀ v, v < a + 1 → ∀ b, b < l.length → edB l v b = (obit T v b || obit T b v) ∧ (obit T v b && obit T b v) = false) := fun v hv b hb => by
                    rcases Nat.lt_or_ge v a with h | h
                    · exact HO2.out v h b hb
                    · obtain rfl : v = a := by omega
                      exact HO3.out b hb
                  clear hB hbel
                  go_wp2
                  go_roundw
                  case rel => exact ⟨a + 1, by omega, by go_num, HBL.out, HN.out⟩
                  case measure => simp [intOf]; omega
            · obtain rfl : a = l.length := by omega
              have HN := Lib.hid (show OriP n l T from ⟨HG.out, HK.out, fun v hv => by rw [← HNN.out]; exact HO.out v hv, HO2.out⟩)
              have x0 : wr.cell? ⟨w.heap.size, 0, none⟩ = some (.int .i64 n) := (A1.out.on hbel).1 0 _ rfl
              have x1 : wr.cell? ⟨w.heap.size, 1, none⟩ = some (.slice ad l.length cap) := (A1.out.on hbel).1 1 _ rfl
              have y0 : wr.cell? ⟨w.heap.size + 1, 0, none⟩ = some (.slice bd T.length cap') := (C1.out.on hbel).1 0 _ rfl
              clear hbel
              go_wp2
              go_ret
              exact SaysB.yes HN.out HW.out
    · have d1 : ((T.length : Int) != n) = true := by rw [bne_iff_ne]; omega
      have HK := Lib.hid k1
      clear k1 hnl
      go_wp2
      go_ret
      exact SaysB.no (fun h => HK.out h.2.1) F1.out

end Go.Proofs.Ytcpchdnhhjhpaaa
