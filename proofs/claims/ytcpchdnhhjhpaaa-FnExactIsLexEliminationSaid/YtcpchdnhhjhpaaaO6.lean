/- IsLexElimination. -/
import Derived.Test.YtcpchdnhhjhpaaaO4
import Derived.Test.YtcpchdnhhjhpaaaRv
import Derived.Test.YtcpchdnhhjhpaaaM4
namespace Go.Proofs.Ytcpchdnhhjhpaaa
set_option linter.unusedVariables false
set_option linter.unusedSimpArgs false
open Go.RowKit Go.Shelf

def LexE (n : Int) (lg : List Int) (s : Int) : Prop := outS (ordR (lexM lg) n lg s) = true ∧ ElimP n lg (outL (ordR (lexM lg) n lg s)).reverse

instance (n : Int) (lg : List Int) (s : Int) : Decidable (LexE n lg s) := by unfold LexE; infer_instance

def revT (l : List Int) (i : Nat) : List Int := (l.reverse).take i

theorem revT_succ (l : List Int) (i : Nat) (h : i < l.length) : revT l (i + 1) = revT l i ++ [nth l (l.length - 1 - i)] := by
  unfold revT
  have hr : i < l.reverse.length := by simpa using h
  have h1 : l.reverse[i]'hr = nth l (l.length - 1 - i) := by
    unfold nth List.getD
    rw [List.getElem_reverse, List.getElem?_eq_getElem (by omega)]
    rfl
  rw [List.take_succ_eq_append_getElem hr, h1]

set_option maxHeartbeats 4000000 in
set_option maxRecDepth 100000 in
theorem specReverse (v : Value) (l : List Int) (w : World) (h : Ints w v l) (hl : l.length ≤ 1048576) :
    Calls Try.prog 77 #[v] w (GetsI w.heap.size w l.reverse) := by
  obtain ⟨i0, hi, hz0, hz1, hz2⟩ := info_parts infoInt
  obtain ⟨a, cap, rfl, -, -⟩ := h.form
  have HI := Lib.hid h
  have HO0 := Lib.hid (OwnI.none0 (B := w.heap.size) (w := w) (Nat.le_refl _))
  have hb0 : Below w.heap.size w (w.alloc (.cells #[] 3)) := (Below.refl _ w).alloc (Nat.le_refl _) _
  clear h
  go_enter Try.func77, Try.ntmps77
  go_wp2
  go_loopw [3, 4] (fun s x wr => ∃ i : Nat, i ≤ l.length ∧ x = .int .i64 ((l.length : Int) - 1 - i) ∧ Hid (OwnI w.heap.size wr s (revT l i)) ∧ Below w.heap.size w wr) (fun _ x _ => (intOf x + 1).toNat)
  case atStart => exact ⟨0, by omega, by go_num, HO0.out, hb0⟩
  case round =>
    clear HO0 hb0
    obtain ⟨i, hi', rfl, HO, hbel⟩ := hrel
    have HBL := Lib.hid hbel
    have hz : w.heap.size ≤ wr.heap.size := hbel.size
    clear hbel
    by_cases hlt : i < l.length
    · obtain ⟨b2, off2, capl', hv, hc2, hmx2, hbk2, hcell2⟩ := HI.out.pos (by omega)
      simp only [Value.slice.injEq] at hv
      obtain ⟨rfl, -, rfl⟩ := hv
      obtain ⟨y, hy⟩ : ∃ y, y = nth l (l.length - 1 - i) := ⟨_, rfl⟩
      obtain ⟨k, hk⟩ : ∃ k, k = l.length - 1 - i := ⟨_, rfl⟩
      have hk2 : (l.length : Int) - 1 - i = (k : Int) := by omega
      have hkl : k < l.length := by omega
      have c0 := (HBL.out.cell (p := ⟨b2, off2 + k, none⟩) hbk2).trans (hcell2 k hkl)
      have hyb : -9223372036854775808 ≤ y ∧ y ≤ 9223372036854775807 := by
        rw [hy]
        exact HI.out.1 _ (by unfold nth List.getD; rw [List.getElem?_eq_getElem (by omega)]; exact List.getElem_mem _)
      rw [← hk] at hy
      rw [← hy] at c0
      have HS := Lib.hid (show revT l (i + 1) = revT l i ++ [y] by rw [revT_succ l i hlt, hy, hk])
      have hrl : (revT l i).length + 1 ≤ 1000000000 := by unfold revT; rw [List.length_take]; omega
      unfold maxLen at hmx2
      rw [hk2]
      clear hcell2 hy hk
      go_wp2_with (at_builtin; refine wpList_append_int rfl (.tmp 13) (.tmp 18) 22 rfl w.heap.size i0 Try.underlying22 hi hz0 hz1 hz2 _ (revT l i) rfl HO.out y hyb.1 hyb.2 rfl hrl hz ?_)
      intro v2 w2 ho2 hg2 hne2
      have HO2 := Lib.hid (show OwnI w.heap.size w2 v2 (revT l (i + 1)) by rw [HS.out]; exact ho2)
      have HB2 := Lib.hid ((HBL.out.alloc hz (.cells #[.int .i64 y] 3)).grown hg2 (by simp; omega) (fun q hq => (HO.out.lt q hq).1))
      clear ho2 hg2 hne2 c0
      go_wp2
      go_roundw
      case rel => exact ⟨i + 1, by omega, by go_num, HO2.out, HB2.out⟩
      case measure => simp [intOf] <;> omega
    · obtain rfl : i = l.length := by omega
      have HF := Lib.hid (show revT l l.length = l.reverse by unfold revT; rw [List.take_of_length_le (by simp)])
      go_wp2
      go_ret
      exact ⟨_, rfl, by rw [← HF.out]; exact HO.out, HBL.out⟩

set_option maxHeartbeats 4000000 in
set_option maxRecDepth 100000 in
theorem implLexElim (n : Int) (v : Value) (lg : List Int) (start : Int) (w : World) (h : Ints w v lg) :
    Calls Try.prog 28 #[.agg #[.int .i64 n, v], .int .i64 start] w (SaysB (LexE n lg start) w) := by
  obtain ⟨a, cap, rfl, -, -⟩ := h.form
  have HI := Lib.hid h
  have HA := argG' (T := 28) (n := n) h
  obtain ⟨R, hR⟩ : ∃ R, R = ordR (lexM lg) n lg start := ⟨_, rfl⟩
  have HC : Hid (∀ W, Below w.heap.size w W → Calls Try.prog 19 #[.agg #[.int .i64 n, .slice a lg.length cap], .int .i64 start] W (GetsLB W.heap.size W R)) := fun W hW => by
    rw [hR]; exact implLexOrder n _ lg start W (HI.out.on hW)
  have HLE : Hid (LexE n lg start ↔ (outS R = true ∧ ElimP n lg (outL R).reverse)) := by rw [hR]; exact Iff.rfl
  have hRl : (outL R).length ≤ 8 := by rw [hR]; exact ordR_len _ _ _ _
  clear h hR
  go_enter Try.func28, Try.ntmps28
  go_wp2_with fail
  refine (HC.out _ ((Below.refl _ w).alloc (Nat.le_refl _) _)).mono ?_
  rintro e w1 ⟨v1, rfl, ho, hb⟩
  have HO := Lib.hid ho
  have HB := Lib.hid (show Below (w.heap.size + 1) (w.alloc (.cells #[.int .i64 n, .slice a lg.length cap] 28)) w1 from by simpa using hb)
  clear ho hb
  obtain ⟨al, capl, rfl, -, -⟩ := HO.out.ints.form
  go_wp2_with fail
  refine (ownReverse HO.out (by omega)).mono ?_
  rintro e w2 ⟨rfl, ho, hg⟩
  have HO2 := Lib.hid ho
  have HB2 := Lib.hid (HB.out.grown hg (by have := HB.out.size; simpa using this) (fun k hk => by have := (HO.out.lt k hk).1; simpa using this))
  clear ho hg
  obtain ⟨c0, c1, cI, cB, cz⟩ := HA.out _ HB2.out
  have HCI := Lib.hid cI
  have HCB := Lib.hid cB
  clear cI cB
  cases hs : outS R with
  | false =>
    have HN : Hid (¬ LexE n lg start) := fun h => by have := (HLE.out.1 h).1; rw [hs] at this; cases this
    clear hs
    go_wp2
    go_ret
    exact SaysB.no HN.out HCB.out
  | true =>
    have HY : Hid (ElimP n lg (outL R).reverse → LexE n lg start) := fun h => HLE.out.2 ⟨hs, h⟩
    have HY2 : Hid (LexE n lg start → ElimP n lg (outL R).reverse) := fun h => (HLE.out.1 h).2
    have HEL : Hid (Calls Try.prog 79 #[.agg #[.int .i64 n, .slice a lg.length cap], .slice al (outL R).length capl] w2 (SaysB (ElimP n lg (outL R).reverse) w2)) :=
      implElim n _ _ lg (outL R).reverse _ HCI.out HO2.out.ints (by rw [List.length_reverse]; omega)
    obtain ⟨m, hm⟩ : ∃ m, m = (outL R).length := ⟨_, rfl⟩
    rw [← hm] at HEL ⊢
    obtain ⟨E, hE⟩ : ∃ E, E = ElimP n lg (outL R).reverse := ⟨_, rfl⟩
    rw [← hE] at HEL HY HY2
    clear hs hm hE
    go_wp2_with fail
    refine HEL.out.mono ?_
    rintro e w3 ⟨r, rfl, hr, hb⟩
    have HR3 := Lib.hid hr
    have HB3 := Lib.hid (HCB.out.trans (hb.mono (by omega)))
    clear hr hb
    go_wp2
    go_ret
    exact ⟨r, rfl, ⟨fun h => HY.out (HR3.out.1 h), fun h => HR3.out.2 (HY2.out h)⟩, HB3.out⟩

set_option maxHeartbeats 4000000 in
set_option maxRecDepth 100000 in
theorem specLexElim (n : Int) (v : Value) (lg : List Int) (start : Int) (w : World) (h : Ints w v lg) :
    Calls Try.prog 27 #[.agg #[.int .i64 n, v], .int .i64 start] w (SaysB (LexE n lg start) w) := by
  obtain ⟨a, cap, rfl, -, -⟩ := h.form
  have HI := Lib.hid h
  have HA := argG' (T := 28) (n := n) h
  obtain ⟨R, hR⟩ : ∃ R, R = ordR (lexM lg) n lg start := ⟨_, rfl⟩
  have HC : Hid (∀ W, Below w.heap.size w W → Calls Try.prog 17 #[.agg #[.int .i64 n, .slice a lg.length cap], .int .i64 start] W (GetsLB W.heap.size W R)) := fun W hW => by
    rw [hR]; exact specLexOrder n _ lg start W (HI.out.on hW)
  have HLE : Hid (LexE n lg start ↔ (outS R = true ∧ ElimP n lg (outL R).reverse)) := by rw [hR]; exact Iff.rfl
  have hRl : (outL R).length ≤ 8 := by rw [hR]; exact ordR_len _ _ _ _
  clear h hR
  go_enter Try.func27, Try.ntmps27
  go_wp2_with fail
  refine (HC.out _ ((Below.refl _ w).alloc (Nat.le_refl _) _)).mono ?_
  rintro e w1 ⟨v1, rfl, ho, hb⟩
  have HO := Lib.hid ho
  have HB := Lib.hid (show Below (w.heap.size + 1) (w.alloc (.cells #[.int .i64 n, .slice a lg.length cap] 28)) w1 from by simpa using hb)
  clear ho hb
  obtain ⟨al, capl, rfl, -, -⟩ := HO.out.ints.form
  obtain ⟨c0, c1, cI, cB, cz⟩ := HA.out _ HB.out
  have HCI := Lib.hid cI
  have HCB := Lib.hid cB
  clear cI cB
  cases hs : outS R with
  | false =>
    have HN : Hid (¬ LexE n lg start) := fun h => by have := (HLE.out.1 h).1; rw [hs] at this; cases this
    clear hs
    go_wp2
    refine wp_region_since (by kernel_rfl) (by kernel_rfl) ?_
    repeat (go_big_quiet_step (fail))
    refine wpQuiet_nil ?_
    intro Z
    have HZ := Lib.hid (HCB.out.trans (Z.prop.mono (by omega)))
    clear c0 c1
    go_wp2
    go_ret
    exact SaysB.no HN.out HZ.out
  | true =>
    have HY : Hid (ElimP n lg (outL R).reverse → LexE n lg start) := fun h => HLE.out.2 ⟨hs, h⟩
    have HY2 : Hid (LexE n lg start → ElimP n lg (outL R).reverse) := fun h => (HLE.out.1 h).2
    have HRV : Hid (∀ W, Below w1.heap.size w1 W → Calls Try.prog 77 #[.slice al (outL R).length capl] W (GetsI W.heap.size W (outL R).reverse)) := fun W hW => specReverse _ _ _ (HO.out.on hW).ints (by omega)
    have HEL : Hid (∀ (u : Value) (W : World), Ints W u (outL R).reverse → Below w1.heap.size w1 W → Calls Try.prog 76 #[.agg #[.int .i64 n, .slice a lg.length cap], u] W (SaysB (ElimP n lg (outL R).reverse) W)) := fun u W hu hW =>
      specElim n _ _ lg (outL R).reverse _ (HCI.out.on hW) hu (by rw [List.length_reverse]; omega)
    obtain ⟨m, hm⟩ : ∃ m, m = (outL R).length := ⟨_, rfl⟩
    rw [← hm] at HRV ⊢
    obtain ⟨Q, hQ⟩ : ∃ Q, Q = (outL R).reverse := ⟨_, rfl⟩
    rw [← hQ] at HEL HRV HY HY2
    obtain ⟨E, hE⟩ : ∃ E, E = ElimP n lg Q := ⟨_, rfl⟩
    rw [← hE] at HEL HY HY2
    clear hs hm hE hQ
    have HX : Hid (∀ W, Below w1.heap.size w1 W → W.cell? ⟨w.heap.size, 0, none⟩ = some (.int .i64 n) ∧ W.cell? ⟨w.heap.size, 1, none⟩ = some (.slice a lg.length cap)) := fun W hW => ⟨(hW.cell (p := ⟨w.heap.size, 0, none⟩) cz).trans c0, (hW.cell (p := ⟨w.heap.size, 1, none⟩) cz).trans c1⟩
    go_wp2
    go_region_with (first
      | (go_at_call 77; refine (HRV.out _ (by first | exact Below.refl _ _ | exact (Below.refl _ _).drew)).mono ?_; rintro e w2 ⟨u2, rfl, ho2, hb2⟩
         have HW2 := Lib.hid (show Below w1.heap.size w1 w2 from (by first | exact hb2 | exact (Below.refl _ _).drew.trans hb2))
         have HO2 := Lib.hid ho2.ints
         obtain ⟨x0, x1⟩ := HX.out _ HW2.out
         clear ho2 hb2)
      | (go_at_call 76; refine (HEL.out _ _ HO2.out HW2.out).mono ?_; rintro e w3 ⟨r, rfl, hr, hb⟩
         have HR3 := Lib.hid hr
         have HB3 := Lib.hid (HCB.out.trans ((HW2.out.mono (by omega)).trans (hb.mono (by have := HW2.out.size; omega))))
         clear hr hb))
    all_goals
      go_wp2
      go_ret
      exact ⟨r, rfl, ⟨fun h => HY.out (HR3.out.1 h), fun h => HR3.out.2 (HY2.out h)⟩, HB3.out⟩

end Go.Proofs.Ytcpchdnhhjhpaaa
