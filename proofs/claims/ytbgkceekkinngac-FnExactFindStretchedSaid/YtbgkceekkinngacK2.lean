/- KeepsDistances. -/
import Derived.Test.YtbgkceekkinngacI3
import Derived.Test.YtbgkceekkinngacD1
import Derived.Test.YtbgkceekkinngacC1
import Derived.Test.YtbgkceekkinngacV6
namespace Go.Proofs.Ytbgkceekkinngac
set_option linter.unusedVariables false
set_option linter.unusedSimpArgs false
open Go.RowKit

/-- All distances within a part that hangs together are those of the graph. -/
def KeepP (n : Int) (l : List Int) (x : Int) : Prop :=
  IndOk n l x ∧ ConP ((memN x.toNat).length : Int) (indR l x.toNat) ∧ ∀ i, i < (listR x).length → ∀ j, j < i → distR ((memN x.toNat).length : Int) (indR l x.toNat) i j = distR n l (nth (listR x) i) (nth (listR x) j)

instance (n : Int) (l : List Int) (x : Int) : Decidable (KeepP n l x) := by unfold KeepP; infer_instance

set_option maxHeartbeats 4000000 in
set_option maxRecDepth 100000 in
theorem implKeep (n : Int) (v : Value) (l : List Int) (x : Int) (w : World) (h : Ints w v l) :
    Calls Try.prog 17 #[.agg #[.int .i64 n, v], .int .i64 x] w (SaysB (KeepP n l x) w) := by
  obtain ⟨a, cap, rfl, -, -⟩ := h.form
  have HA := argG' (T := 27) (n := n) h
  have HI := Lib.hid h
  clear h
  by_cases hok : IndOk n l x
  · have HOK := Lib.hid hok
    clear hok
    obtain ⟨m, hm⟩ : ∃ m, m = (memN x.toNat).length := ⟨_, rfl⟩
    obtain ⟨L, hL⟩ : ∃ L, L = indR l x.toNat := ⟨_, rfl⟩
    obtain ⟨K, hK⟩ : ∃ K, K = listR x := ⟨_, rfl⟩
    have HKP := Lib.hid (show KeepP n l x ↔ (ConP (m : Int) L ∧ ∀ i, i < K.length → ∀ j, j < i → distR (m : Int) L i j = distR n l (nth K i) (nth K j)) by
      unfold KeepP; rw [← hm, ← hL, ← hK]; exact ⟨fun h => h.2, fun h => ⟨HOK.out, h⟩⟩)
    have hK7 : K.length ≤ 7 := by rw [hK]; exact listR_length x
    have HIY := Lib.hid (fun W (hW : Ints W (.slice a l.length cap) l) => implInduced_yes n _ l x W hW HOK.out)
    rw [← hm, ← hL] at HIY
    have HLS := Lib.hid (fun W => implListOf x W)
    rw [← hK] at HLS
    clear hm hL hK
    go_enter Try.func17, Try.ntmps17
    go_wp2_with fail
    refine (HIY.out _ (HI.out.alloc _)).mono ?_
    rintro e w1 ⟨v1, rfl, ho, hb⟩
    obtain ⟨a1, cap1, rfl, -, -⟩ := ho.ints.form
    have HO := Lib.hid ho.ints
    have HB := Lib.hid (hb.mono (B' := w.heap.size + 1) (by simp))
    clear ho hb HIY
    obtain ⟨w2, hw2⟩ : ∃ w2, w2 = w1.alloc (.cells #[.int .i64 m, .slice a1 L.length cap1] 27) := ⟨_, rfl⟩
    have HB2 := Lib.hid (show Below (w.heap.size + 1) (w.alloc (.cells #[.int .i64 n, .slice a l.length cap] 27)) w2 by rw [hw2]; exact HB.out.alloc (HA.out _ HB.out).2.2.2.2 _)
    have HX2 := Lib.hid (show BoxG w1.heap.size m (.slice a1 L.length cap1) w2 by rw [hw2]; exact BoxG.new w1 _ m _ ⟨_, _, _, rfl⟩)
    have HO2 := Lib.hid (show Ints w2 (.slice a1 L.length cap1) L by rw [hw2]; exact HO.out.alloc _)
    have HALL2 : Hid (∀ W, Below w2.heap.size w2 W → W.cell? ⟨w.heap.size, 0, none⟩ = some (.int .i64 n) ∧ W.cell? ⟨w.heap.size, 1, none⟩ = some (.slice a l.length cap) ∧ W.cell? ⟨w1.heap.size, 0, none⟩ = some (.int .i64 m) ∧ W.cell? ⟨w1.heap.size, 1, none⟩ = some (.slice a1 L.length cap1) ∧ Ints W (.slice a l.length cap) l ∧ Ints W (.slice a1 L.length cap1) L ∧ Below w.heap.size w W) := fun W hW => by
      obtain ⟨c0, c1, cI, cB, -⟩ := HA.out W (HB2.out.trans (hW.mono (HA.out _ HB2.out).2.2.2.2))
      have k := HX2.out.keep (below_grown hW) (by simp)
      exact ⟨c0, c1, k.1, k.2.1, cI, HO2.out.on hW, cB⟩
    clear HO HB HX2 HB2
    go_wp2_with fail
    rw [← hw2]
    clear hw2
    refine (implConn (m : Int) _ L _ HO2.out).mono ?_
    rintro e w3 ⟨r, rfl, hr, hb⟩
    have HR := Lib.hid hr
    have HB3 := Lib.hid hb
    clear hr hb HO2
    cases r with
    | false =>
      have HW := Lib.hid (HALL2.out _ HB3.out).2.2.2.2.2.2
      go_wp2
      go_ret
      exact SaysB.no (fun h => absurd (HR.out.2 (HKP.out.1 h).1) (by decide)) HW.out
    | true =>
      have HCON := Lib.hid (HR.out.1 (by first | rfl | trivial))
      go_wp2_with fail
      refine (HLS.out _).mono ?_
      rintro e w5 ⟨vk, rfl, ho, hb⟩
      have HK0 := Lib.hid ho.ints
      have HB5 := Lib.hid (HB3.out.trans (hb.mono HB3.out.size))
      clear ho hb HLS HR
      obtain ⟨ak, capk, rfl, hkc, hkm⟩ := HK0.out.form
      have HALL : Hid (∀ W, Below w5.heap.size w5 W → (W.cell? ⟨w.heap.size, 0, none⟩ = some (.int .i64 n) ∧ W.cell? ⟨w.heap.size, 1, none⟩ = some (.slice a l.length cap) ∧ W.cell? ⟨w1.heap.size, 0, none⟩ = some (.int .i64 m) ∧ W.cell? ⟨w1.heap.size, 1, none⟩ = some (.slice a1 L.length cap1) ∧ Ints W (.slice a l.length cap) l ∧ Ints W (.slice a1 L.length cap1) L ∧ Below w.heap.size w W) ∧ Ints W (.slice ak K.length capk) K) := fun W hW =>
        ⟨HALL2.out W (HB5.out.trans (hW.mono HB5.out.size)), HK0.out.on hW⟩
      unfold maxLen at hkm
      clear HALL2 HB3 HB5
      go_wp2
      go_loopw [8, 9, 10, 11, 29] (fun p q r s x wr => ∃ i : Nat, i ≤ K.length ∧ x = .int .i64 i ∧ Hid (∀ u, u < i → ∀ t, t < u → distR (m : Int) L u t = distR n l (nth K u) (nth K t)) ∧ Below w5.heap.size w5 wr) (fun _ _ _ _ x _ => K.length - (intOf x).toNat)
      case atStart => exact ⟨0, by omega, rfl, fun u hu => absurd hu (by omega), Below.refl _ _⟩
      case round =>
        obtain ⟨i, hi, rfl, HJ, hbel⟩ := hrel
        have HBL := Lib.hid hbel
        clear hbel
        by_cases hlt : i < K.length
        · obtain ⟨bk, offk, capk', hv, _, _, hbk, hcell⟩ := HK0.out.pos (by omega)
          simp only [Value.slice.injEq] at hv
          obtain ⟨rfl, -, rfl⟩ := hv
          have HCELL : Hid (∀ W, Below w5.heap.size w5 W → ∀ j, j < K.length → W.cell? ⟨bk, offk + j, none⟩ = some (.int .i64 (nth K j))) := fun W hW j hj => (hW.cell (p := ⟨bk, offk + j, none⟩) hbk).trans (hcell j hj)
          obtain ⟨xi, hxi⟩ : ∃ xi, xi = nth K i := ⟨_, rfl⟩
          have HXI := Lib.hid hxi
          have e1 := HCELL.out _ HBL.out i hlt
          rw [← hxi] at e1
          have hic : i ≤ capk := by omega
          clear hcell hxi
          go_wp2
          clear e1
          go_loopw [10, 11, 38] (fun p q x wr => ∃ j : Nat, j ≤ i ∧ x = .int .i64 j ∧ Hid (∀ t, t < j → distR (m : Int) L i t = distR n l xi (nth K t)) ∧ Below w5.heap.size w5 wr) (fun _ _ x _ => i - (intOf x).toNat)
          case atStart => exact ⟨0, by omega, rfl, fun u hu => absurd hu (by omega), HBL.out⟩
          case round =>
            clear HBL
            obtain ⟨j, hj, rfl, HJ2, hbel⟩ := hrel
            have HBL := Lib.hid hbel
            clear hbel
            by_cases hlj : j < i
            · have hjK : j < K.length := by omega
              obtain ⟨xj, hxj⟩ : ∃ xj, xj = nth K j := ⟨_, rfl⟩
              have HXJ := Lib.hid hxj
              have e2 := HCELL.out _ HBL.out j hjK
              rw [← hxj] at e2
              have HX := Lib.hid (fun Y : Since wr => HALL.out Y.val (HBL.out.trans (Y.prop.mono HBL.out.size)))
              have hx0 : ∀ Y : Since wr, Y.val.cell? ⟨w.heap.size, 0, none⟩ = some (.int .i64 n) := fun Y => (HX.out Y).1.1
              have hx1 : ∀ Y : Since wr, Y.val.cell? ⟨w.heap.size, 1, none⟩ = some (.slice a l.length cap) := fun Y => (HX.out Y).1.2.1
              have hx2 : ∀ Y : Since wr, Y.val.cell? ⟨w1.heap.size, 0, none⟩ = some (.int .i64 m) := fun Y => (HX.out Y).1.2.2.1
              have hx3 : ∀ Y : Since wr, Y.val.cell? ⟨w1.heap.size, 1, none⟩ = some (.slice a1 L.length cap1) := fun Y => (HX.out Y).1.2.2.2.1
              obtain ⟨d1, hd1⟩ : ∃ d1, d1 = distR (m : Int) L i j := ⟨_, rfl⟩
              obtain ⟨d2, hd2⟩ : ∃ d2, d2 = distR n l xi xj := ⟨_, rfl⟩
              have HC1 : Hid (∀ Y : Since wr, Calls Try.prog 62 #[.agg #[.int .i64 m, .slice a1 L.length cap1], .int .i64 i, .int .i64 j] Y.val fun e w' => e = .returned (.int .i64 d1) ∧ Below Y.val.heap.size Y.val w') := fun Y => by rw [hd1]; exact implDist (m : Int) _ L i j _ (HX.out Y).1.2.2.2.2.2.1
              have HC2 : Hid (∀ Y : Since wr, Calls Try.prog 62 #[.agg #[.int .i64 n, .slice a l.length cap], .int .i64 xi, .int .i64 xj] Y.val fun e w' => e = .returned (.int .i64 d2) ∧ Below Y.val.heap.size Y.val w') := fun Y => by rw [hd2]; exact implDist n _ l xi xj _ (HX.out Y).1.2.2.2.2.1
              have HD1 := Lib.hid hd1
              have HD2 := Lib.hid hd2
              clear hd1 hd2 hxj
              by_cases hdd : d1 = d2
              · have b0 : (d1 != d2) = false := by rw [bne_eq_false_iff_eq]; exact hdd
                have HT : Hid (∀ t, t < j + 1 → distR (m : Int) L i t = distR n l xi (nth K t)) := fun t ht => by
                  rcases Nat.lt_or_ge t j with h | h
                  · exact HJ2.out t h
                  · obtain rfl : t = j := by omega
                    rw [← HD1.out, ← HXJ.out, ← HD2.out]; exact hdd
                clear hdd
                go_wp2
                refine wp_region_since (by kernel_rfl) (by kernel_rfl) ?_
                repeat (go_big_quiet_step (first | with_reducible exact since_call (HC1.out _) | with_reducible exact since_call (HC2.out _)))
                refine wpQuiet_nil ?_
                intro Y
                have HB3 := Lib.hid (HBL.out.trans (Y.prop.mono HBL.out.size))
                clear hx0 hx1 hx2 hx3 e2 b0
                go_wp2
                go_roundw
                case rel => exact ⟨j + 1, by omega, by go_num, HT.out, HB3.out⟩
                case measure => simp [intOf]; omega
              · have b0 : (d1 != d2) = true := by rw [bne_iff_ne]; exact hdd
                have HN : Hid (¬ KeepP n l x) := fun h => hdd (by
                  have := (HKP.out.1 h).2 i hlt j hlj
                  rw [← HXI.out, ← HXJ.out, ← HD1.out, ← HD2.out] at this
                  exact this)
                clear hdd
                go_wp2
                refine wp_region_since (by kernel_rfl) (by kernel_rfl) ?_
                repeat (go_big_quiet_step (first | with_reducible exact since_call (HC1.out _) | with_reducible exact since_call (HC2.out _)))
                refine wpQuiet_nil ?_
                intro Y
                have HW := Lib.hid (HX.out Y).1.2.2.2.2.2.2
                clear hx0 hx1 hx2 hx3 e2 b0
                go_wp2
                go_ret
                exact SaysB.no HN.out HW.out
            · obtain rfl : j = i := by omega
              have HT : Hid (∀ u, u < j + 1 → ∀ t, t < u → distR (m : Int) L u t = distR n l (nth K u) (nth K t)) := fun u hu t ht => by
                rcases Nat.lt_or_ge u j with h | h
                · exact HJ.out u h t ht
                · obtain rfl : u = j := by omega
                  rw [← HXI.out]; exact HJ2.out t ht
              go_wp2
              go_roundw
              case rel => exact ⟨j + 1, by omega, by go_num, HT.out, HBL.out⟩
              case measure => simp [intOf]; omega
        · obtain rfl : i = K.length := by omega
          have HW := Lib.hid (HALL.out _ HBL.out).1.2.2.2.2.2.2
          go_wp2
          go_ret
          exact SaysB.yes (HKP.out.2 ⟨HCON.out, HJ.out⟩) HW.out
  · have HOK := Lib.hid hok
    clear hok
    go_enter Try.func17, Try.ntmps17
    go_wp2_with fail
    refine (implInduced_no n _ l x _ (HI.out.alloc _) HOK.out).mono ?_
    rintro e w1 ⟨v1, rfl, ho, hb⟩
    obtain ⟨a1, cap1, rfl, -, -⟩ := ho.ints.form
    have HW := Lib.hid (((Below.refl _ w).alloc (Nat.le_refl _) _).trans (hb.mono (by simp)))
    clear ho hb
    go_wp2
    go_ret
    exact SaysB.no (fun h => HOK.out h.1) (HW.out.alloc HW.out.size _)

set_option maxHeartbeats 4000000 in
set_option maxRecDepth 100000 in
theorem specKeep (n : Int) (v : Value) (l : List Int) (x : Int) (w : World) (h : Ints w v l) :
    Calls Try.prog 15 #[.agg #[.int .i64 n, v], .int .i64 x] w (SaysB (KeepP n l x) w) := by
  obtain ⟨a, cap, rfl, -, -⟩ := h.form
  have HA := argG' (T := 27) (n := n) h
  have HI := Lib.hid h
  clear h
  by_cases hok : IndOk n l x
  · have HOK := Lib.hid hok
    clear hok
    obtain ⟨m, hm⟩ : ∃ m, m = (memN x.toNat).length := ⟨_, rfl⟩
    obtain ⟨L, hL⟩ : ∃ L, L = indR l x.toNat := ⟨_, rfl⟩
    obtain ⟨K, hK⟩ : ∃ K, K = listR x := ⟨_, rfl⟩
    have HKP := Lib.hid (show KeepP n l x ↔ (ConP (m : Int) L ∧ ∀ i, i < K.length → ∀ j, j < i → distR (m : Int) L i j = distR n l (nth K i) (nth K j)) by
      unfold KeepP; rw [← hm, ← hL, ← hK]; exact ⟨fun h => h.2, fun h => ⟨HOK.out, h⟩⟩)
    have hK7 : K.length ≤ 7 := by rw [hK]; exact listR_length x
    have HIY := Lib.hid (fun W (hW : Ints W (.slice a l.length cap) l) => specInduced_yes n _ l x W hW HOK.out)
    rw [← hm, ← hL] at HIY
    have HLS := Lib.hid (fun W => specListOf x W)
    rw [← hK] at HLS
    clear hm hL hK
    go_enter Try.func15, Try.ntmps15
    go_wp2_with fail
    refine (HIY.out _ (HI.out.alloc _)).mono ?_
    rintro e w1 ⟨v1, rfl, ho, hb⟩
    obtain ⟨a1, cap1, rfl, -, -⟩ := ho.ints.form
    have HO := Lib.hid ho.ints
    have HB := Lib.hid (hb.mono (B' := w.heap.size + 1) (by simp))
    clear ho hb HIY
    obtain ⟨w2, hw2⟩ : ∃ w2, w2 = w1.alloc (.cells #[.int .i64 m, .slice a1 L.length cap1] 27) := ⟨_, rfl⟩
    have HB2 := Lib.hid (show Below (w.heap.size + 1) (w.alloc (.cells #[.int .i64 n, .slice a l.length cap] 27)) w2 by rw [hw2]; exact HB.out.alloc (HA.out _ HB.out).2.2.2.2 _)
    have HX2 := Lib.hid (show BoxG w1.heap.size m (.slice a1 L.length cap1) w2 by rw [hw2]; exact BoxG.new w1 _ m _ ⟨_, _, _, rfl⟩)
    have HO2 := Lib.hid (show Ints w2 (.slice a1 L.length cap1) L by rw [hw2]; exact HO.out.alloc _)
    have HALL2 : Hid (∀ W, Below w2.heap.size w2 W → W.cell? ⟨w.heap.size, 0, none⟩ = some (.int .i64 n) ∧ W.cell? ⟨w.heap.size, 1, none⟩ = some (.slice a l.length cap) ∧ W.cell? ⟨w1.heap.size, 0, none⟩ = some (.int .i64 m) ∧ W.cell? ⟨w1.heap.size, 1, none⟩ = some (.slice a1 L.length cap1) ∧ Ints W (.slice a l.length cap) l ∧ Ints W (.slice a1 L.length cap1) L ∧ Below w.heap.size w W) := fun W hW => by
      obtain ⟨c0, c1, cI, cB, -⟩ := HA.out W (HB2.out.trans (hW.mono (HA.out _ HB2.out).2.2.2.2))
      have k := HX2.out.keep (below_grown hW) (by simp)
      exact ⟨c0, c1, k.1, k.2.1, cI, HO2.out.on hW, cB⟩
    clear HO HB HX2 HB2
    go_wp2_with fail
    rw [← hw2]
    clear hw2
    refine (specConn (m : Int) _ L _ HO2.out).mono ?_
    rintro e w3 ⟨r, rfl, hr, hb⟩
    have HR := Lib.hid hr
    have HB3 := Lib.hid hb
    clear hr hb HO2
    cases r with
    | false =>
      have HW := Lib.hid (HALL2.out _ HB3.out).2.2.2.2.2.2
      go_wp2
      go_ret
      exact SaysB.no (fun h => absurd (HR.out.2 (HKP.out.1 h).1) (by decide)) HW.out
    | true =>
      have HCON := Lib.hid (HR.out.1 (by first | rfl | trivial))
      go_wp2_with fail
      refine (HLS.out _).mono ?_
      rintro e w5 ⟨vk, rfl, ho, hb⟩
      have HK0 := Lib.hid ho.ints
      have HB5 := Lib.hid (HB3.out.trans (hb.mono HB3.out.size))
      clear ho hb HLS HR
      obtain ⟨ak, capk, rfl, hkc, hkm⟩ := HK0.out.form
      have HALL : Hid (∀ W, Below w5.heap.size w5 W → (W.cell? ⟨w.heap.size, 0, none⟩ = some (.int .i64 n) ∧ W.cell? ⟨w.heap.size, 1, none⟩ = some (.slice a l.length cap) ∧ W.cell? ⟨w1.heap.size, 0, none⟩ = some (.int .i64 m) ∧ W.cell? ⟨w1.heap.size, 1, none⟩ = some (.slice a1 L.length cap1) ∧ Ints W (.slice a l.length cap) l ∧ Ints W (.slice a1 L.length cap1) L ∧ Below w.heap.size w W) ∧ Ints W (.slice ak K.length capk) K) := fun W hW =>
        ⟨HALL2.out W (HB5.out.trans (hW.mono HB5.out.size)), HK0.out.on hW⟩
      unfold maxLen at hkm
      clear HALL2 HB3 HB5
      go_wp2
      go_loopw [8, 9] (fun x y wr => ∃ i : Nat, i ≤ K.length ∧ x = .int .i64 i ∧ Hid (∀ u, u < i → ∀ t, t < u → distR (m : Int) L u t = distR n l (nth K u) (nth K t)) ∧ Below w5.heap.size w5 wr) (fun x _ _ => K.length - (intOf x).toNat)
      case atStart => exact ⟨0, by omega, rfl, fun u hu => absurd hu (by omega), Below.refl _ _⟩
      case round =>
        obtain ⟨i, hi, rfl, HJ, hbel⟩ := hrel
        have HBL := Lib.hid hbel
        clear hbel
        by_cases hlt : i < K.length
        · obtain ⟨bk, offk, capk', hv, _, _, hbk, hcell⟩ := HK0.out.pos (by omega)
          simp only [Value.slice.injEq] at hv
          obtain ⟨rfl, -, rfl⟩ := hv
          have HCELL : Hid (∀ W, Below w5.heap.size w5 W → ∀ j, j < K.length → W.cell? ⟨bk, offk + j, none⟩ = some (.int .i64 (nth K j))) := fun W hW j hj => (hW.cell (p := ⟨bk, offk + j, none⟩) hbk).trans (hcell j hj)
          obtain ⟨xi, hxi⟩ : ∃ xi, xi = nth K i := ⟨_, rfl⟩
          have HXI := Lib.hid hxi
          have e1 := HCELL.out _ HBL.out i hlt
          rw [← hxi] at e1
          have hic : i ≤ capk := by omega
          clear hcell hxi
          go_wp2
          clear e1
          go_loopw [9] (fun x wr => ∃ j : Nat, j ≤ i ∧ x = .int .i64 j ∧ Hid (∀ t, t < j → distR (m : Int) L i t = distR n l xi (nth K t)) ∧ Below w5.heap.size w5 wr) (fun x _ => i - (intOf x).toNat)
          case atStart => exact ⟨0, by omega, rfl, fun u hu => absurd hu (by omega), HBL.out⟩
          case round =>
            clear HBL
            obtain ⟨j, hj, rfl, HJ2, hbel⟩ := hrel
            have HBL := Lib.hid hbel
            clear hbel
            by_cases hlj : j < i
            · have hjK : j < K.length := by omega
              obtain ⟨xj, hxj⟩ : ∃ xj, xj = nth K j := ⟨_, rfl⟩
              have HXJ := Lib.hid hxj
              have e2 := HCELL.out _ HBL.out j hjK
              rw [← hxj] at e2
              have HX := Lib.hid (fun Y : Since wr => HALL.out Y.val (HBL.out.trans (Y.prop.mono HBL.out.size)))
              have hx0 : ∀ Y : Since wr, Y.val.cell? ⟨w.heap.size, 0, none⟩ = some (.int .i64 n) := fun Y => (HX.out Y).1.1
              have hx1 : ∀ Y : Since wr, Y.val.cell? ⟨w.heap.size, 1, none⟩ = some (.slice a l.length cap) := fun Y => (HX.out Y).1.2.1
              have hx2 : ∀ Y : Since wr, Y.val.cell? ⟨w1.heap.size, 0, none⟩ = some (.int .i64 m) := fun Y => (HX.out Y).1.2.2.1
              have hx3 : ∀ Y : Since wr, Y.val.cell? ⟨w1.heap.size, 1, none⟩ = some (.slice a1 L.length cap1) := fun Y => (HX.out Y).1.2.2.2.1
              have hx4 : ∀ Y : Since wr, Y.val.cell? ⟨bk, offk + i, none⟩ = some (.int .i64 xi) := fun Y => by rw [HXI.out]; exact HCELL.out _ (HBL.out.trans (Y.prop.mono HBL.out.size)) i hlt
              have hx5 : ∀ Y : Since wr, Y.val.cell? ⟨bk, offk + j, none⟩ = some (.int .i64 xj) := fun Y => by rw [HXJ.out]; exact HCELL.out _ (HBL.out.trans (Y.prop.mono HBL.out.size)) j hjK
              obtain ⟨d1, hd1⟩ : ∃ d1, d1 = distR (m : Int) L i j := ⟨_, rfl⟩
              obtain ⟨d2, hd2⟩ : ∃ d2, d2 = distR n l xi xj := ⟨_, rfl⟩
              have HC1 : Hid (∀ Y : Since wr, Calls Try.prog 58 #[.agg #[.int .i64 m, .slice a1 L.length cap1], .int .i64 i, .int .i64 j] Y.val fun e w' => e = .returned (.int .i64 d1) ∧ Below Y.val.heap.size Y.val w') := fun Y => by rw [hd1]; exact specDist (m : Int) _ L i j _ (HX.out Y).1.2.2.2.2.2.1
              have HC2 : Hid (∀ Y : Since wr, Calls Try.prog 58 #[.agg #[.int .i64 n, .slice a l.length cap], .int .i64 xi, .int .i64 xj] Y.val fun e w' => e = .returned (.int .i64 d2) ∧ Below Y.val.heap.size Y.val w') := fun Y => by rw [hd2]; exact specDist n _ l xi xj _ (HX.out Y).1.2.2.2.2.1
              have HD1 := Lib.hid hd1
              have HD2 := Lib.hid hd2
              clear hd1 hd2 hxj
              by_cases hdd : d1 = d2
              · have b0 : (d1 != d2) = false := by rw [bne_eq_false_iff_eq]; exact hdd
                have HT : Hid (∀ t, t < j + 1 → distR (m : Int) L i t = distR n l xi (nth K t)) := fun t ht => by
                  rcases Nat.lt_or_ge t j with h | h
                  · exact HJ2.out t h
                  · obtain rfl : t = j := by omega
                    rw [← HD1.out, ← HXJ.out, ← HD2.out]; exact hdd
                clear hdd
                go_wp2
                refine wp_region_since (by kernel_rfl) (by kernel_rfl) ?_
                repeat (go_big_quiet_step (first | with_reducible exact since_call (HC1.out _) | with_reducible exact since_call (HC2.out _)))
                refine wpQuiet_nil ?_
                intro Y
                have HB3 := Lib.hid (HBL.out.trans (Y.prop.mono HBL.out.size))
                clear hx0 hx1 hx2 hx3 hx4 hx5 e2 b0
                go_wp2
                go_roundw
                case rel => exact ⟨j + 1, by omega, by go_num, HT.out, HB3.out⟩
                case measure => simp [intOf]; omega
              · have b0 : (d1 != d2) = true := by rw [bne_iff_ne]; exact hdd
                have HN : Hid (¬ KeepP n l x) := fun h => hdd (by
                  have := (HKP.out.1 h).2 i hlt j hlj
                  rw [← HXI.out, ← HXJ.out, ← HD1.out, ← HD2.out] at this
                  exact this)
                clear hdd
                go_wp2
                refine wp_region_since (by kernel_rfl) (by kernel_rfl) ?_
                repeat (go_big_quiet_step (first | with_reducible exact since_call (HC1.out _) | with_reducible exact since_call (HC2.out _)))
                refine wpQuiet_nil ?_
                intro Y
                have HW := Lib.hid (HX.out Y).1.2.2.2.2.2.2
                clear hx0 hx1 hx2 hx3 hx4 hx5 e2 b0
                go_wp2
                go_ret
                exact SaysB.no HN.out HW.out
            · obtain rfl : j = i := by omega
              have HT : Hid (∀ u, u < j + 1 → ∀ t, t < u → distR (m : Int) L u t = distR n l (nth K u) (nth K t)) := fun u hu t ht => by
                rcases Nat.lt_or_ge u j with h | h
                · exact HJ.out u h t ht
                · obtain rfl : u = j := by omega
                  rw [← HXI.out]; exact HJ2.out t ht
              go_wp2
              go_roundw
              case rel => exact ⟨j + 1, by omega, by go_num, HT.out, HBL.out⟩
              case measure => simp [intOf]; omega
        · obtain rfl : i = K.length := by omega
          have HW := Lib.hid (HALL.out _ HBL.out).1.2.2.2.2.2.2
          go_wp2
          go_ret
          exact SaysB.yes (HKP.out.2 ⟨HCON.out, HJ.out⟩) HW.out
  · have HOK := Lib.hid hok
    clear hok
    go_enter Try.func15, Try.ntmps15
    go_wp2_with fail
    refine (specInduced_no n _ l x _ (HI.out.alloc _) HOK.out).mono ?_
    rintro e w1 ⟨v1, rfl, ho, hb⟩
    obtain ⟨a1, cap1, rfl, -, -⟩ := ho.ints.form
    have HW := Lib.hid (((Below.refl _ w).alloc (Nat.le_refl _) _).trans (hb.mono (by simp)))
    clear ho hb
    go_wp2
    go_ret
    exact SaysB.no (fun h => HOK.out h.1) (HW.out.alloc HW.out.size _)

end Go.Proofs.Ytbgkceekkinngac
