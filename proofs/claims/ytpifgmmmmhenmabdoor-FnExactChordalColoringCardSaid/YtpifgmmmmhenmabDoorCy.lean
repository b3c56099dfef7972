/- spec.ColorByOrder. -/
import Derived.Test.YtpifgmmmmhenmabDoorCb
import Derived.Test.YtpifgmmmmhenmabDoorO1
import Derived.Test.YtpifgmmmmhenmabDoorQ
import Derived.BigQuiet
namespace Go.Proofs.YtpifgmmmmhenmabDoor
set_option linter.unusedVariables false
set_option linter.unusedSimpArgs false
open Go.RowKit

/-- While the list is filled with -1. -/
def fillL (N k : Nat) : List Int := (List.range N).map fun j => if j < k then -1 else 0

theorem fillL_length (N k : Nat) : (fillL N k).length = N := by simp [fillL]

theorem fillL_zero (N : Nat) : fillL N 0 = List.replicate N 0 := by
  refine list_ext_nth (by simp [fillL]) fun j hj => ?_
  rw [fillL_length] at hj
  rw [show nth (fillL N 0) j = _ from nth_mapR _ hj]
  simp [nth, List.getD, hj]

theorem fillL_set {N k : Nat} (hk : k < N) : (fillL N k).set k (-1) = fillL N (k + 1) := by
  refine list_ext_nth (by simp [fillL]) fun j hj => ?_
  have hj' : j < N := by simpa [fillL] using hj
  rw [nth_set _ _ _ _ (by rw [fillL_length]; exact hk), show nth (fillL N k) j = _ from nth_mapR _ hj', show nth (fillL N (k + 1)) j = _ from nth_mapR _ hj']
  by_cases h : j = k
  · subst h; simp
  · rw [if_neg h]
    by_cases h2 : j < k
    · rw [if_pos h2, if_pos (by omega)]
    · rw [if_neg h2, if_neg (by omega)]

theorem fillL_full (l o : List Int) : fillL l.length l.length = specO l.length (cS l o 0).1 (cS l o 0).2 := by
  refine list_ext_nth (by simp [fillL, specO]) fun j hj => ?_
  rw [fillL_length] at hj
  rw [show nth (fillL l.length l.length) j = _ from nth_mapR _ hj, specO_at _ _ _ hj]
  simp [cS, hj]

theorem OwnI.none0C {B : Nat} {w : World} (hB : B ≤ w.heap.size) : OwnI B (w.alloc (.cells #[] 3)) (.slice (some ⟨w.heap.size, 0, none⟩) 0 0) [] :=
  ⟨inI64_nil, by simp [iv], .inr ⟨w.heap.size, 0, #[], rfl, hB, by show (w.heap.push _)[w.heap.size]? = _; rw [Array.getElem?_push_size], by simp, by unfold maxLen; omega, by simp, by simp [iv]⟩⟩

theorem in_small {l : List Int} (h : ∀ x ∈ l, -1 ≤ x ∧ x ≤ 100) : inI64 l := fun x hx => by have := h x hx; omega

theorem specO_bd {n : Int} {l o : List Int} (h : OrdP n l o) {i : Nat} (hi : i ≤ o.length) {j : Nat} (hj : j < l.length) :
    -1 ≤ nth (specO l.length (cS l o i).1 (cS l o i).2) j ∧ nth (specO l.length (cS l o i).1 (cS l o i).2) j ≤ 6 ∧ (nth (specO l.length (cS l o i).1 (cS l o i).2) j ≥ 0 ↔ (cS l o i).2.testBit j = true) ∧ ((cS l o i).2.testBit j = true → nth (specO l.length (cS l o i).1 (cS l o i).2) j = nth (cS l o i).1 j) := by
  have hI := cS_inv h i hi
  have hl := h.len
  rw [specO_at _ _ _ hj]
  cases hb : (cS l o i).2.testBit j with
  | true =>
    have := hI.col j hb
    rw [if_pos rfl]
    refine ⟨by omega, by omega, ⟨fun _ => rfl, fun _ => by omega⟩, fun _ => rfl⟩
  | false =>
    rw [if_neg (by decide)]
    exact ⟨by omega, by omega, ⟨fun h => by omega, fun h => by cases h⟩, fun h => by cases h⟩

set_option maxHeartbeats 4000000 in
set_option maxRecDepth 100000 in
theorem specColor (n : Int) (v vl : Value) (lg l : List Int) (w : World) (h : Ints w v lg) (hl : Ints w vl l) (hlen : l.length ≤ 1048576) :
    Calls Tryd.prog 25 #[.agg #[.int .i64 n, v], vl] w (GetsI w.heap.size w (colR n lg l)) := by
  obtain ⟨a, cap, rfl, -, -⟩ := h.form
  obtain ⟨al, capl, rfl, -, hml⟩ := hl.form
  have HA := argG' (T := 28) (n := n) h
  have HI := Lib.hid h
  have HL := Lib.hid hl
  unfold maxLen at hml
  clear h hl
  go_enter Tryd.func25, Tryd.ntmps25
  go_wp2_with fail
  refine (specIsOrder n _ _ lg l _ (HI.out.alloc _) (HL.out.alloc _) hlen).mono ?_
  rintro e w1 ⟨r, rfl, hr, hb⟩
  have HB := Lib.hid (hb.mono (B' := w.heap.size + 1) (by simp))
  clear hb
  obtain ⟨c0, c1, cI, cB, hz⟩ := HA.out _ HB.out
  have HCB := Lib.hid cB
  clear cI cB
  cases r with
  | false =>
    have HN := Lib.hid (show colR n lg l = [] from colR_no fun h => absurd (hr.2 h) (by decide))
    clear hr
    go_wp2
    go_ret
    refine ⟨_, rfl, ?_, HCB.out.alloc HCB.out.size _⟩
    rw [HN.out]
    have := OwnI.none0C (w := w1) HCB.out.size
    simpa using this
  | true =>
    have HO := Lib.hid (hr.1 rfl)
    clear hr
    have HR := Lib.hid (colR_is HO.out)
    obtain ⟨hl1, hl7, hnl⟩ := HO.out.len
    obtain ⟨N, hN⟩ : ∃ N : Nat, N = lg.length := ⟨_, rfl⟩
    obtain rfl : n = (N : Int) := by omega
    have HNL := Lib.hid hN
    have hN7 : N ≤ 7 := by omega
    have hN1 : 1 ≤ N := by have := HO.out.graph.1; omega
    have hlN : l.length = N := by omega
    have hmk := fun W : World => run_make_row' (P := Tryd.prog) 22 3 (.int .i64 0) 8 Tryd.underlying22 infoInt rfl .i64 .i64 N (by omega) (by omega) W
    have HLN := Lib.hid hlN
    clear hl1 hl7 hnl hN hlN
    go_wp2
    clear hmk
    have HPX : Hid (∀ W, Below w1.heap.size w1 W → ArgG 28 w (N : Int) (.slice a lg.length cap) lg W ∧ Below w.heap.size w W ∧ Ints W (.slice al l.length capl) l) := fun W hW => by
      have h1 := HB.out.trans (hW.mono hz)
      exact ⟨HA.out _ h1, (HA.out _ h1).2.2.2.1, HL.out.on (HA.out _ h1).2.2.2.1⟩
    have HST := Lib.hid (show OwnI w1.heap.size (w1.alloc (.cells (madeCells #[.int .i64 0] N) 3)) (.slice (some ⟨w1.heap.size, 0, none⟩) N N) (fillL N 0) by
      have hrow := World.rowIs_made w1 (.int .i64 0) N 3
      have h1 := OwnI.of_row (B := w1.heap.size) (l := fillL N 0) (by rw [fillL_length]; exact hrow) (fun i hi => by
        rw [fillL_length] at hi
        rw [fillL_zero]
        simp [nth, List.getD, hi]) (Nat.le_refl _) (in_small fun x hx => by rw [fillL_zero] at hx; simp at hx; omega) (by rw [fillL_length]; unfold maxLen; omega)
      rw [fillL_length] at h1
      exact h1)
    obtain ⟨q, hq⟩ : ∃ q, q = w1.heap.size := ⟨_, rfl⟩
    rw [← hq] at HST ⊢
    have HQ := Lib.hid hq
    have hb2 : Below w1.heap.size w1 (w1.alloc (.cells (madeCells #[.int .i64 0] N) 3)) := (Below.refl _ _).alloc (Nat.le_refl _) _
    rw [← hq] at hb2
    clear hq c0 c1
    go_loopw [6] (fun x wr => ∃ r : Nat, r ≤ N ∧ x = .int .i64 r ∧ Hid (OwnI q wr (.slice (some ⟨q, 0, none⟩) N N) (fillL N r)) ∧ Hid (Below q w1 wr)) (fun x _ => N - (intOf x).toNat)
    case atStart => exact ⟨0, by omega, rfl, HST, Lib.hid hb2⟩
    case round =>
      clear HST hb2
      obtain ⟨r, hrN, rfl, HO1, HBL⟩ := hrel
      have HBL1 := Lib.hid (show Below w1.heap.size w1 wr by rw [← HQ.out]; exact HBL.out)
      obtain ⟨⟨c0, c1, -, -, -⟩, -, -⟩ := HPX.out _ HBL1.out
      by_cases hlt : r < N
      · have d0 : decide ((r : Int) < (N : Int)) = true := decide_eq_true (by omega)
        have hO1 := HO1.out
        rcases hO1.form with ⟨h9, -⟩ | ⟨g9, cp9, h9, -, -, -, -, hcell9, hfr9⟩
        · cases h9
        simp only [Value.slice.injEq, Option.some.injEq, Addr.mk.injEq] at h9
        obtain ⟨⟨rfl, -, -⟩, -, -⟩ := h9
        have c2 := hcell9 r (by rw [fillL_length]; exact hlt)
        have f1 := hfr9 r
        have HOS := Lib.hid (show OwnI q (wr.setCell ⟨q, r, none⟩ (.int .i64 (-1))) (.slice (some ⟨q, 0, none⟩) N N) (fillL N (r + 1)) by
          have h1 : OwnI q wr (.slice (some ⟨q, 0, none⟩) (fillL N r).length N) (fillL N r) := by rw [fillL_length]; exact hO1
          have h2 := h1.set r (-1) (by omega) (by omega)
          rw [fillL_length, fillL_set hlt] at h2
          exact h2.1)
        have HBB := Lib.hid (show Below q w1 (wr.setCell ⟨q, r, none⟩ (.int .i64 (-1))) from HBL.out.setCell (p := ⟨q, r, none⟩) (Nat.le_refl _) _)
        clear hcell9 hfr9 hO1
        go_wp2
        go_roundw
        case rel => exact ⟨r + 1, by omega, by go_num, HOS, HBB⟩
        case measure => simp [intOf]; omega
      · obtain rfl : r = N := by omega
        have d0 : decide ((r : Int) < (r : Int)) = false := by simp
        have HO2 := Lib.hid (show OwnI q wr (.slice (some ⟨q, 0, none⟩) r r) (specO r (cS lg l 0).1 (cS lg l 0).2) by
          have h1 := HO1.out
          rw [HNL.out] at h1 ⊢
          rw [← fillL_full]
          exact h1)
        clear HO1 HBL1
        go_wp2
        clear c0 c1
        obtain ⟨wf, hwf⟩ : ∃ wf, wf = wr := ⟨_, rfl⟩
        rw [← hwf] at HO2 HBL ⊢
        clear hwf
        go_loopw [7, 8, 9, 10] (fun x _ _ _ wr => ∃ i : Nat, i ≤ r ∧ x = .int .i64 i ∧ Hid (OwnI q wr (.slice (some ⟨q, 0, none⟩) r r) (specO r (cS lg l i).1 (cS lg l i).2)) ∧ Hid (Below q w1 wr)) (fun x _ _ _ _ => r - (intOf x).toNat)
        case atStart => exact ⟨0, by omega, rfl, HO2, HBL⟩
        case round =>
          clear HO2 HBL
          obtain ⟨i, hi, rfl, HO3, HBL⟩ := hrel
          have HBL1 := Lib.hid (show Below w1.heap.size w1 wr by rw [← HQ.out]; exact HBL.out)
          obtain ⟨⟨c0, c1, -, -, -⟩, -, -⟩ := HPX.out _ HBL1.out
          by_cases hlti : i < r
          · have d1 : decide ((i : Int) < (l.length : Int)) = true := decide_eq_true (by have := HLN.out; omega)
            have d1' : decide (i < l.length) = true := decide_eq_true (by have := HLN.out; omega)
            have hil : i < l.length := by have := HLN.out; omega
            obtain ⟨ka, kb, kc⟩ := HO.out.1.at hil
            obtain ⟨V, hV⟩ : ∃ V, V = kl l i := ⟨_, rfl⟩
            rw [← hV] at ka kb kc
            have HNV := Lib.hid ka
            have hVr : V < r := by have := HNL.out; omega
            obtain ⟨C, hC⟩ : ∃ C, C = (cS lg l i).1 := ⟨_, rfl⟩
            obtain ⟨K, hK⟩ : ∃ K, K = (cS lg l i).2 := ⟨_, rfl⟩
            obtain ⟨X, hX⟩ : ∃ X, X = rowN lg V &&& K := ⟨_, rfl⟩
            have hI := cS_inv HO.out i (by have := HLN.out; omega)
            rw [← hC, ← hK] at hI
            have HII := Lib.hid hI
            have hrl := (HO.out.graph.row_lt V (by have := HNL.out; omega)).1
            have hXl : X < 2 ^ lg.length := by rw [hX]; exact Nat.lt_of_le_of_lt Nat.and_le_left hrl
            have hX7 : X < 128 := by have := two_le lg.length (by have := HNL.out; omega); omega
            have HXX := Lib.hid hX
            have HCE := Lib.hid (show cS lg l i = (C, K) by rw [hC, hK])
            rw [← hC, ← hK] at HO3
            have hbd : ∀ j, j < r → -1 ≤ nth (specO r C K) j ∧ nth (specO r C K) j ≤ 6 ∧ (nth (specO r C K) j ≥ 0 ↔ K.testBit j = true) ∧ (K.testBit j = true → nth (specO r C K) j = nth C j) := fun j hj => by
              have := specO_bd HO.out (show i ≤ l.length by have := HLN.out; omega) (j := j) (by rw [← HNL.out]; exact hj)
              rw [← hC, ← hK, ← HNL.out] at this
              exact this
            have HBD := Lib.hid hbd
            have hused : ∀ k, k ≤ r → usdF C 0 (memU (X : Int) k) < 128 := fun k hk => by
              refine usdF_lt C 7 _ 0 (by decide) fun u hu => ?_
              have hu' : u ∈ memN X := by
                rw [← memU_nat]
                have := (memU_prefix (X : Int) k (7 - k)).subset hu
                rwa [show k + (7 - k) = 7 by omega] at this
              have hb := (mem_memN hu').2
              rw [hX, Nat.testBit_and] at hb
              have := hI.col u (by simp at hb; exact hb.2)
              omega
            have HUS := Lib.hid hused
            have HUF := Lib.hid (show usdF C 0 (memU (X : Int) r) = usdN C X by
              unfold usdN
              rw [memU_full (by rw [HNL.out]; exact hXl) (by omega)])
            clear hC hK hX hI hbd hused hrl hV
            go_wp2
            clear c0 c1
            go_loopw [8, 9] (fun u x wr => ∃ k : Nat, k ≤ r ∧ x = .int .i64 k ∧ u = .int .i64 (usdF C 0 (memU (X : Int) k) : Nat) ∧ Hid (OwnI q wr (.slice (some ⟨q, 0, none⟩) r r) (specO r C K)) ∧ Hid (Below q w1 wr)) (fun _ x _ => r - (intOf x).toNat)
            case atStart => exact ⟨0, by omega, rfl, rfl, HO3, HBL⟩
            case round =>
              clear HO3 HBL HBL1
              obtain ⟨k, hk, rfl, rfl, HO3, HBL⟩ := hrel
              have HBL1 := Lib.hid (show Below w1.heap.size w1 wr by rw [← HQ.out]; exact HBL.out)
              have HAX : Hid (∀ W, Below wr.heap.size wr W → ArgG 28 w (r : Int) (.slice a lg.length cap) lg W ∧ Below w.heap.size w W ∧ Ints W (.slice al l.length capl) l ∧ OwnI q W (.slice (some ⟨q, 0, none⟩) r r) (specO r C K) ∧ Below q w1 W) := fun W hW => by
                obtain ⟨h1, h2, h3⟩ := HPX.out _ (HBL1.out.trans (hW.mono HBL1.out.size))
                exact ⟨h1, h2, h3, HO3.out.keep (below_grown hW) (by simp), HBL.out.trans (hW.mono (by rw [HQ.out]; exact HBL1.out.size))⟩
              obtain ⟨⟨c0, c1, -, -, -⟩, -, hIl, hOw, -⟩ := HAX.out wr (Below.refl _ _)
              obtain ⟨u0, hu0⟩ : ∃ u, u = usdF C 0 (memU (X : Int) k) := ⟨_, rfl⟩
              have HU0 := Lib.hid hu0
              rw [← hu0]
              clear hu0
              by_cases hlk : k < r
              · have d2 : decide ((k : Int) < (r : Int)) = true := decide_eq_true (by omega)
                have d2' : decide (k < r) = true := decide_eq_true (by omega)
                obtain ⟨bl, offl, cl, hv8, _, hml8, hbl8, hcl8⟩ := hIl.pos (by have := HLN.out; omega)
                simp only [Value.slice.injEq] at hv8
                obtain ⟨rfl, -, rfl⟩ := hv8
                unfold maxLen at hml8
                have hb9 : q < wr.heap.size := (hOw.lt q rfl).2
                rcases hOw.form with ⟨h9, -⟩ | ⟨g9, cp9, h9, -, -, -, -, hcell9, hfr9⟩
                · cases h9
                simp only [Value.slice.injEq, Option.some.injEq, Addr.mk.injEq] at h9
                obtain ⟨⟨rfl, -, -⟩, -, -⟩ := h9
                obtain ⟨o, ho⟩ : ∃ o, o = nth (specO r C K) k := ⟨_, rfl⟩
                obtain ⟨o1, o2, o3, o4⟩ := HBD.out k hlk
                have f1 := hcell9 k (by rw [specO_length]; exact hlk)
                rw [← ho] at f1 o1 o2 o3 o4
                have f2 := hcl8 i (by have := HLN.out; omega)
                rw [HNV.out] at f2
                obtain ⟨E, hE⟩ : ∃ E, E = edB lg V k := ⟨_, rfl⟩
                have hq0 : ∀ Y : Since wr, Y.val.cell? ⟨w.heap.size, 0, none⟩ = some (.int .i64 r) := fun Y => (HAX.out _ Y.prop).1.1
                have hq1 : ∀ Y : Since wr, Y.val.cell? ⟨w.heap.size, 1, none⟩ = some (.slice a lg.length cap) := fun Y => (HAX.out _ Y.prop).1.2.1
                have hq2 : ∀ Y : Since wr, Y.val.cell? ⟨bl, offl + i, none⟩ = some (.int .i64 V) := fun Y => (Y.prop.cell (p := ⟨bl, offl + i, none⟩) hbl8).trans f2
                have hq3 : ∀ Y : Since wr, Y.val.cell? ⟨q, k, none⟩ = some (.int .i64 o) := fun Y => (Y.prop.cell (p := ⟨q, k, none⟩) hb9).trans f1
                have HC1 : Hid (∀ Y : Since wr, Calls Tryd.prog 44 #[.agg #[.int .i64 (r : Int), .slice a lg.length cap], .int .i64 V, .int .i64 k] Y.val fun e w' => e = .returned (.bool E) ∧ Below Y.val.heap.size Y.val w') := fun Y => by
                  rw [hE]; exact l2Edge_is (r : Int) _ lg V k _ (HAX.out _ Y.prop).1.2.2.1 (by have := HNL.out; omega) (by omega)
                have HEX := Lib.hid (show (bitAt (X : Int) k = 1) ↔ (E = true ∧ K.testBit k = true) by
                  rw [bitAt_nat, HXX.out, Nat.testBit_and, Bool.and_eq_true, hE, edB_iff, (HO.out.graph.row_lt V (by have := HNL.out; omega)).2, bitAt_nat])
                have HMS := Lib.hid (memU_succ (X : Int) k)
                clear hE hcl8 hcell9 hfr9 hIl hOw ho
                cases E with
                | false =>
                  have HNX := Lib.hid (show usdF C 0 (memU (X : Int) (k + 1)) = u0 by
                    rw [HMS.out, if_neg (fun h => by cases (HEX.out.1 h).1), List.append_nil, ← HU0.out])
                  clear o3 o4
                  go_wp2
                  refine wp_region_since (by kernel_rfl) (by kernel_rfl) ?_
                  repeat (go_big_quiet_step (with_reducible exact since_call (HC1.out _)))
                  refine wpQuiet_nil ?_
                  intro Y
                  have HY := Lib.hid (HAX.out _ Y.prop)
                  clear hq0 hq1 hq2 hq3
                  go_wp2
                  go_roundw
                  case rel => exact ⟨k + 1, by omega, by go_num, by rw [HNX.out], Lib.hid HY.out.2.2.2.1, Lib.hid HY.out.2.2.2.2⟩
                  case measure => simp [intOf]; omega
                | true =>
                  by_cases hb0 : 0 ≤ o
                  · have hKb := o3.1 hb0
                    obtain ⟨c, hc⟩ : ∃ c : Nat, o = (c : Int) := ⟨o.toNat, by omega⟩
                    have hc6 : c ≤ 6 := by omega
                    have d3 : decide ((0 : Int) ≤ o) = true := decide_eq_true hb0
                    subst hc
                    have HCC := Lib.hid (show (nth C k).toNat = c by have := o4 hKb; omega)
                    obtain ⟨P1, eP1, hP11, hP12⟩ : ∃ P, (2 : Int) ^ c = P ∧ 1 ≤ P ∧ P ≤ 128 := ⟨_, rfl, (shl_one' c (by omega)).2.2.2.2, (shl_one' c (by omega)).2.2.2.1⟩
                    have g3 : IntKind.i64.wrap (1 * P1) = P1 := IntWalk.i64_in _ (by omega) |>.trans (by omega)
                    have g4 : IntKind.i64.wrap P1 = P1 := IntWalk.i64_in _ (by omega)
                    have hu7 : u0 < 128 := by rw [HU0.out]; exact HUS.out k hk
                    obtain ⟨u1, hu1⟩ : ∃ u, u = u0 ||| 2 ^ c := ⟨_, rfl⟩
                    have g5 : bits .or .i64 (u0 : Int) P1 = (u1 : Int) := by
                      rw [hu1, ← eP1]
                      have h1 : 2 ^ c < 128 := by have := Nat.pow_le_pow_right (n := 2) (by decide) hc6; omega
                      have h2 := (bits_nat u0 (2 ^ c) hu7 h1).2
                      push_cast at h2 ⊢
                      exact h2
                    have HNX := Lib.hid (show usdF C 0 (memU (X : Int) (k + 1)) = u1 by
                      rw [HMS.out, if_pos (HEX.out.2 ⟨rfl, hKb⟩), usdF_snoc, ← HU0.out, HCC.out, hu1])
                    clear o3 o4 hu1 hKb
                    go_wp2
                    refine wp_region_since (by kernel_rfl) (by kernel_rfl) ?_
                    repeat (go_big_quiet_step (with_reducible exact since_call (HC1.out _)))
                    refine wpQuiet_nil ?_
                    intro Y
                    have HY := Lib.hid (HAX.out _ Y.prop)
                    have f9 := hq3 Y
                    clear hq0 hq1 hq2 hq3
                    go_wp2
                    go_roundw
                    case rel => exact ⟨k + 1, by omega, by go_num, by rw [HNX.out], Lib.hid HY.out.2.2.2.1, Lib.hid HY.out.2.2.2.2⟩
                    case measure => simp [intOf]; omega
                  · have hKb : K.testBit k = false := by
                      cases h : K.testBit k with
                      | false => rfl
                      | true => exact absurd (o3.2 h) (by omega)
                    have d3 : decide ((0 : Int) ≤ o) = false := by simp; omega
                    have HNX := Lib.hid (show usdF C 0 (memU (X : Int) (k + 1)) = u0 by
                      rw [HMS.out, if_neg (fun h => by have := (HEX.out.1 h).2; rw [hKb] at this; cases this), List.append_nil, ← HU0.out])
                    clear o3 o4 hKb
                    go_wp2
                    refine wp_region_since (by kernel_rfl) (by kernel_rfl) ?_
                    repeat (go_big_quiet_step (with_reducible exact since_call (HC1.out _)))
                    refine wpQuiet_nil ?_
                    intro Y
                    have HY := Lib.hid (HAX.out _ Y.prop)
                    clear hq0 hq1 hq2 hq3
                    go_wp2
                    go_roundw
                    case rel => exact ⟨k + 1, by omega, by go_num, by rw [HNX.out], Lib.hid HY.out.2.2.2.1, Lib.hid HY.out.2.2.2.2⟩
                    case measure => simp [intOf]; omega
              · obtain rfl : k = r := by omega
                have d2 : decide ((k : Int) < (k : Int)) = false := by simp
                have hu7 : u0 < 128 := by rw [HU0.out]; exact HUS.out k (Nat.le_refl _)
                have HM := Lib.hid (show mexN u0 = mexN (usdN C X) by rw [HU0.out, HUF.out])
                obtain ⟨m1, m2, m3⟩ := mex_facts u0 hu7
                have d2' : decide (k < k) = false := by simp
                have HM2 := Lib.hid m2
                have HM3 := Lib.hid m3
                have HM6 := Lib.hid (show mexN u0 ≤ 6 by
                  rw [HM.out]
                  have h1 := HII.out.used (rowN lg V)
                  rw [← HXX.out] at h1
                  exact Nat.le_trans (mex_le _ _ h1 (by omega)) (by omega))
                obtain ⟨M, hMM⟩ : ∃ M, M = mexN u0 := ⟨_, rfl⟩
                rw [← hMM] at m1 HM2 HM3 HM6 HM
                clear m2 m3 hMM hIl hOw
                go_wp2
                obtain ⟨wg, hwg⟩ : ∃ wg, wg = wr := ⟨_, rfl⟩
                rw [← hwg] at HO3 HBL HBL1 HAX c0 c1 ⊢
                clear hwg
                go_loopw [10] (fun x w9 => ∃ j : Nat, j ≤ M ∧ x = .int .i64 j ∧ w9 = wg) (fun x _ => M - (intOf x).toNat)
                case atStart => exact ⟨0, by omega, rfl, by first | rfl | trivial⟩
                case round =>
                  obtain ⟨j, hj, rfl, rfl⟩ := hrel
                  obtain ⟨t, ht⟩ : ∃ t, t = bitAt (u0 : Int) j := ⟨_, rfl⟩
                  have e1 : bits .and .i64 ((u0 : Int) / 2 ^ j) 1 = t := by rw [ht]; exact and_one_bit _ j
                  by_cases hlj : j < M
                  · obtain rfl : t = 1 := by rw [ht, bitAt_nat]; exact HM3.out j hlj
                    clear ht
                    go_wp2
                    go_roundw
                    case rel => exact ⟨j + 1, by omega, by go_num, by first | rfl | trivial⟩
                    case measure => simp [intOf]; omega
                  · obtain rfl : j = M := by omega
                    obtain rfl : t = 0 := by
                      rw [ht]
                      rcases bitAt_two (u0 : Int) j with h | h
                      · exact h
                      · rw [bitAt_nat, HM2.out] at h; cases h
                    clear ht
                    obtain ⟨-, -, hIl, hOw, -⟩ := HAX.out wr (Below.refl _ _)
                    obtain ⟨bl, offl, cl, hv8, _, hml8, hbl8, hcl8⟩ := hIl.pos (by have := HLN.out; omega)
                    simp only [Value.slice.injEq] at hv8
                    obtain ⟨rfl, -, rfl⟩ := hv8
                    unfold maxLen at hml8
                    rcases hOw.form with ⟨h9, -⟩ | ⟨g9, cp9, h9, -, -, -, hb9, hcell9, hfr9⟩
                    · cases h9
                    simp only [Value.slice.injEq, Option.some.injEq, Addr.mk.injEq] at h9
                    obtain ⟨⟨rfl, -, -⟩, -, -⟩ := h9
                    have f1 := hcell9 V (by rw [specO_length]; exact hVr)
                    have f3 := hfr9 V
                    have f2 := hcl8 i (by have := HLN.out; omega)
                    rw [HNV.out] at f2
                    have h6 := HM6.out
                    have HOS := Lib.hid (show OwnI q (wr.setCell ⟨q, V, none⟩ (.int .i64 (j : Int))) (.slice (some ⟨q, 0, none⟩) k k) (specO k (cS lg l (i + 1)).1 (cS lg l (i + 1)).2) by
                      have h1 : OwnI q wr (.slice (some ⟨q, 0, none⟩) (specO k C K).length k) (specO k C K) := by rw [specO_length]; exact hOw
                      have h2 := h1.set V (j : Int) (by omega) (by omega)
                      have e : cS lg l (i + 1) = (C.set V (j : Int), K ||| 2 ^ V) := by
                        show ((cS lg l i).1.set (kl l i) _, (cS lg l i).2 ||| 2 ^ kl l i) = _
                        rw [HCE.out]
                        have hkl : kl l i = V := by unfold kl; rw [HNV.out]; exact Int.toNat_natCast V
                        rw [hkl]
                        show (C.set V ((mexN (usdN C (rowN lg V &&& K)) : Nat) : Int), K ||| 2 ^ V) = _
                        rw [← HXX.out, ← HM.out]
                      rw [specO_length, specO_set (by rw [HII.out.len]; exact HNL.out.symm) K hVr] at h2
                      rw [e]
                      exact h2.1)
                    have HBB := Lib.hid (show Below q w1 (wr.setCell ⟨q, V, none⟩ (.int .i64 (j : Int))) from HBL.out.setCell (p := ⟨q, V, none⟩) (Nat.le_refl _) _)
                    clear hcell9 hfr9 hcl8 hIl hOw h6
                    go_wp2
                    go_roundw
                    case rel => exact ⟨i + 1, by omega, by go_num, HOS, HBB⟩
                    case measure => simp [intOf]; omega
          · obtain rfl : i = r := by omega
            have d1 : decide ((i : Int) < (l.length : Int)) = false := by have := HLN.out; simp; omega
            have d1' : decide (i < l.length) = false := by have := HLN.out; simp; omega
            have HF := Lib.hid (HPX.out _ HBL1.out).2.1
            have HE := Lib.hid (show specO i (cS lg l i).1 (cS lg l i).2 = colR (i : Int) lg l by
              rw [HR.out]
              have := specO_last HO.out
              rw [← HNL.out, HLN.out] at this
              rw [HLN.out]
              exact this)
            have hqw : w.heap.size ≤ q := by rw [HQ.out]; exact HCB.out.size
            go_wp2
            go_ret
            exact ⟨_, rfl, by rw [← HE.out]; exact HO3.out.mono hqw, HF.out⟩

end Go.Proofs.YtpifgmmmmhenmabDoor
