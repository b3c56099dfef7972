/- spec.HeightsOf. -/
import Derived.Test.YtcpchdnhhjhpaaaH9
import Derived.Test.YtcpchdnhhjhpaaaHu
namespace Go.Proofs.Ytcpchdnhhjhpaaa
set_option linter.unusedVariables false
set_option linter.unusedSimpArgs false
open Go.RowKit Go.Shelf

def hgtR (n : Int) (l T : List Int) : List Int := if TrP n l T then relN T l.length l.length else []

theorem Bd.relWs {N : Nat} {v : Nat} : ∀ (ws : List Nat) {c : Int} {h : List Int}, Bd N c h → (∀ w ∈ ws, w < N) → Bd N (c + ws.length) (relW h v ws)
  | [], c, h, H, _ => by simpa [relW] using H
  | w :: ws, c, h, H, hw => by
    have h1 := Bd.relWs (v := v) ws (H.rel (v := v) (hw w (by simp))) (fun x hx => hw x (by simp [hx]))
    have e : c + 1 + (ws.length : Int) = c + ((w :: ws).length : Int) := by simp; omega
    rw [e] at h1
    exact h1

theorem relW_step (h : List Int) (v : Nat) (s : Int) (k : Nat) (hb : bitAt s k = 1) : relW h v (memU s (k + 1)) = relS (relW h v (memU s k)) v k := by
  rw [memU_succ, if_pos hb, relW_snoc]

theorem relW_same (h : List Int) (v : Nat) (s : Int) (k : Nat) (hb : bitAt s k = 0) : relW h v (memU s (k + 1)) = relW h v (memU s k) := by
  rw [memU_succ, if_neg (by omega), List.append_nil]

set_option maxHeartbeats 4000000 in
set_option maxRecDepth 100000 in
theorem specHeights (n : Int) (v u : Value) (l T : List Int) (w : World) (h : Ints w v l) (g : Ints w u T) (hT : T.length ≤ 1048576) :
    Calls Try.prog 62 #[.agg #[.int .i64 n, v], .agg #[u]] w (GetsI w.heap.size w (hgtR n l T)) := by
  obtain ⟨R, hR⟩ : ∃ R, R = hgtR n l T := ⟨_, rfl⟩
  have HRR := Lib.hid hR
  rw [← hR]
  clear hR
  obtain ⟨ad, cap, rfl, -, -⟩ := h.form
  obtain ⟨bd, cap', rfl, -, -⟩ := g.form
  have HI := Lib.hid h
  have HJ := Lib.hid g
  clear h g
  have F0 := Lib.hid (show Below w.heap.size w ((w.alloc (.cells #[.int .i64 n, .slice ad l.length cap] 28)).alloc (.cells #[.slice bd T.length cap'] 79)) from ((Below.refl _ w).alloc (Nat.le_refl _) _).alloc (by simp) _)
  have A0 := Lib.hid (show Box w.heap.size [.int .i64 n, .slice ad l.length cap] ((w.alloc (.cells #[.int .i64 n, .slice ad l.length cap] 28)).alloc (.cells #[.slice bd T.length cap'] 79)) from (Box.new w _ _).keep (grown_alloc _ _ none) (by simp))
  have C0 := Lib.hid (show Box (w.heap.size + 1) [.slice bd T.length cap'] ((w.alloc (.cells #[.int .i64 n, .slice ad l.length cap] 28)).alloc (.cells #[.slice bd T.length cap'] 79)) by have h := Box.new (w.alloc (.cells #[.int .i64 n, .slice ad l.length cap] 28)) 79 [.slice bd T.length cap']; simpa using h)
  go_enter Try.func62, Try.ntmps62
  go_wp2_with fail
  refine (specTr n _ _ l T _ (HI.out.on F0.out) (HJ.out.on F0.out) hT).mono ?_
  rintro e w1 ⟨r, rfl, hr, hb⟩
  have F1 := Lib.hid (F0.out.trans (hb.mono F0.out.size))
  have A1 := Lib.hid (A0.out.on hb)
  have C1 := Lib.hid (C0.out.on hb)
  have HR := Lib.hid hr
  clear hr hb A0 C0 F0
  have x0 : w1.cell? ⟨w.heap.size, 0, none⟩ = some (.int .i64 n) := (A1.out).1 0 _ rfl
  have y0 : w1.cell? ⟨w.heap.size + 1, 0, none⟩ = some (.slice bd T.length cap') := (C1.out).1 0 _ rfl
  cases r with
  | false =>
    have HN := Lib.hid (show R = [] by rw [HRR.out]; unfold hgtR; rw [if_neg (fun h => absurd (HR.out.2 h) (by decide))])
    go_wp2
    go_ret
    exact ⟨_, rfl, by rw [HN.out]; exact OwnI.none0H F1.out.size, F1.out.alloc F1.out.size _⟩
  | true =>
    have HO := Lib.hid (HR.out.1 (by first | rfl | trivial))
    have hn7 := HO.out.1.1.2.1
    have hnl := HO.out.1.1.2.2.1
    have hn1 := HO.out.1.1.1
    obtain ⟨N, hN⟩ : ∃ N : Nat, n = (N : Int) := ⟨n.toNat, by omega⟩
    have HNL := Lib.hid (show l.length = N by omega)
    subst hN
    have HTL := Lib.hid HO.out.1.2.1
    have hN7 : N ≤ 7 := by omega
    have hN1 : 1 ≤ N := by omega
    have hmk := fun W : World => run_make_row' (P := Try.prog) 22 3 (.int .i64 0) 8 Try.underlying22 infoInt rfl .i64 .i64 N (by omega) (by omega) W
    clear hnl hn7 hn1
    go_wp2
    clear hmk
    have HPX : Hid (∀ W, Below w1.heap.size w1 W → W.cell? ⟨w.heap.size, 0, none⟩ = some (.int .i64 N) ∧ W.cell? ⟨w.heap.size + 1, 0, none⟩ = some (.slice bd T.length cap') ∧ Ints W (.slice bd T.length cap') T ∧ Below w.heap.size w W) := fun W hW =>
      ⟨(A1.out.on hW).1 0 _ rfl, (C1.out.on hW).1 0 _ rfl, HJ.out.on (F1.out.trans (hW.mono F1.out.size)), F1.out.trans (hW.mono F1.out.size)⟩
    have HST := Lib.hid (show OwnI w1.heap.size (w1.alloc (.cells (madeCells #[.int .i64 0] N) 3)) (.slice (some ⟨w1.heap.size, 0, none⟩) N N) (relN T N 0) by
      have hrow := World.rowIs_made w1 (.int .i64 0) N 3
      have h1 := OwnI.of_row (B := w1.heap.size) (l := List.replicate N 0) (by rw [List.length_replicate]; exact hrow) (fun i hi => by
        have hi' : i < N := by simpa using hi
        simp [nth, List.getD, hi']) (Nat.le_refl _) (fun x hx => by simp at hx; omega) (by rw [List.length_replicate]; unfold maxLen; omega)
      rw [List.length_replicate] at h1
      exact h1)
    obtain ⟨q, hq⟩ : ∃ q, q = w1.heap.size := ⟨_, rfl⟩
    rw [← hq] at HST ⊢
    have HQ := Lib.hid hq
    have hb2 : Below w1.heap.size w1 (w1.alloc (.cells (madeCells #[.int .i64 0] N) 3)) := (Below.refl _ _).alloc (Nat.le_refl _) _
    rw [← hq] at hb2
    clear hq x0 y0
    go_loopw [6, 7, 8] (fun x _ _ wr => ∃ r : Nat, r ≤ N ∧ x = .int .i64 r ∧ Hid (OwnI q wr (.slice (some ⟨q, 0, none⟩) N N) (relN T N r)) ∧ Hid (Bd N (49 * (r : Int)) (relN T N r)) ∧ Below q w1 wr) (fun x _ _ _ => N - (intOf x).toNat)
    case atStart => exact ⟨0, by omega, rfl, HST.out, Lib.hid (show Bd N (49 * ((0 : Nat) : Int)) (relN T N 0) from Bd.zero N), hb2⟩
    case round =>
      clear HST hb2
      obtain ⟨r, hrN, rfl, HO1, HB1, hbel⟩ := hrel
      have HBL := Lib.hid hbel
      obtain ⟨x0, y0, -, -⟩ := HPX.out _ (by rw [← HQ.out]; exact hbel)
      clear hbel
      by_cases hlt : r < N
      · have d0 : decide ((r : Int) < (N : Int)) = true := decide_eq_true (by omega)
        obtain ⟨H1, hH1⟩ : ∃ H1, H1 = relN T N r := ⟨_, rfl⟩
        have HH1 := Lib.hid hH1
        rw [← hH1] at HO1 HB1
        clear hH1
        go_wp2
        clear x0 y0
        go_loopw [7, 8] (fun x _ wr => ∃ v : Nat, v ≤ N ∧ x = .int .i64 v ∧ Hid (OwnI q wr (.slice (some ⟨q, 0, none⟩) N N) (relV T H1 v)) ∧ Hid (Bd N (49 * (r : Int) + 7 * (v : Int)) (relV T H1 v)) ∧ Below q w1 wr) (fun x _ _ => N - (intOf x).toNat)
        case atStart => exact ⟨0, by omega, rfl, HO1.out, Lib.hid (show Bd N (49 * (r : Int) + 7 * ((0 : Nat) : Int)) H1 from (by simpa using HB1.out)), HBL.out⟩
        case round =>
          clear HO1 HBL
          obtain ⟨v, hvN, rfl, HO2, HB2, hbel⟩ := hrel
          have HBL := Lib.hid hbel
          obtain ⟨x0, y0, -, -⟩ := HPX.out _ (by rw [← HQ.out]; exact hbel)
          clear hbel
          by_cases hlv : v < N
          · have d1 : decide ((v : Int) < (N : Int)) = true := decide_eq_true (by omega)
            obtain ⟨H2, hH2⟩ : ∃ H2, H2 = relV T H1 v := ⟨_, rfl⟩
            have HH2 := Lib.hid hH2
            rw [← hH2] at HO2 HB2
            clear hH2
            obtain ⟨X, hX, hXl, hX7⟩ := ori_row HO.out.1 v (by have := HNL.out; omega)
            have HXX := Lib.hid hX
            obtain ⟨b2, off2, cp2, hv9, _, hmx2, hbk2, hcell2⟩ := HJ.out.pos (by have := HTL.out; have := HNL.out; omega)
            simp only [Value.slice.injEq] at hv9
            obtain ⟨rfl, -, rfl⟩ := hv9
            have hvT : v < T.length := by have := HTL.out; have := HNL.out; omega
            have HCT : Hid (∀ W, Below q w1 W → W.cell? ⟨b2, off2 + v, none⟩ = some (.int .i64 X)) := fun W hW => by
              rw [← hX]
              exact ((HPX.out _ (by rw [← HQ.out]; exact hW)).2.2.2.cell (p := ⟨b2, off2 + v, none⟩) hbk2).trans (hcell2 v hvT)
            unfold maxLen at hmx2
            clear hX hcell2
            go_wp2
            clear x0 y0
            go_loopw [8] (fun x wr => ∃ k : Nat, k ≤ N ∧ x = .int .i64 k ∧ Hid (OwnI q wr (.slice (some ⟨q, 0, none⟩) N N) (relW H2 v (memU (X : Int) k))) ∧ Hid (Bd N (49 * (r : Int) + 7 * (v : Int) + k) (relW H2 v (memU (X : Int) k))) ∧ Below q w1 wr) (fun x _ => N - (intOf x).toNat)
            case atStart => exact ⟨0, by omega, rfl, HO2.out, Lib.hid (show Bd N (49 * (r : Int) + 7 * (v : Int) + ((0 : Nat) : Int)) H2 from (by simpa using HB2.out)), HBL.out⟩
            case round =>
              clear HO2 HBL
              obtain ⟨k, hkN, rfl, HO3, HB3, hbel⟩ := hrel
              have HBL := Lib.hid hbel
              obtain ⟨x0, y0, -, -⟩ := HPX.out _ (by rw [← HQ.out]; exact hbel)
              have z0 := HCT.out _ hbel
              clear hbel
              by_cases hlk : k < N
              · have d2 : decide ((k : Int) < (N : Int)) = true := decide_eq_true (by omega)
                obtain ⟨t, ht⟩ : ∃ t, t = bitAt (X : Int) k := ⟨_, rfl⟩
                have e1 : bits .and .i64 ((X : Int) / 2 ^ k) 1 = t := by rw [ht]; exact and_one_bit _ k
                have z1 : t = 0 ∨ t = 1 := by rw [ht]; exact bitAt_two _ _
                have HT9 := Lib.hid ht
                clear ht
                rcases z1 with rfl | rfl
                · have HS := Lib.hid (relW_same H2 v (X : Int) k HT9.out.symm)
                  go_wp2
                  go_roundw
                  case rel => exact ⟨k + 1, by omega, by go_num, by rw [HS.out]; exact HO3.out, by rw [HS.out]; exact Lib.hid (HB3.out.mono (by omega)), HBL.out⟩
                  case measure => simp [intOf]; omega
                · have HS := Lib.hid (relW_step H2 v (X : Int) k HT9.out.symm)
                  obtain ⟨H3, hH3⟩ : ∃ H3, H3 = relW H2 v (memU (X : Int) k) := ⟨_, rfl⟩
                  rw [← hH3] at HS HO3 HB3
                  clear hH3
                  have HL3 := Lib.hid HB3.out.1
                  obtain ⟨ha0, ha1⟩ := HB3.out.2 k
                  obtain ⟨hb0, hb1⟩ := HB3.out.2 v
                  obtain ⟨a, ha⟩ : ∃ a, a = nth H3 k := ⟨_, rfl⟩
                  obtain ⟨b, hb⟩ : ∃ b, b = nth H3 v := ⟨_, rfl⟩
                  rw [← ha] at ha0 ha1
                  rw [← hb] at hb0 hb1
                  have hO3 := HO3.out
                  rcases hO3.form with ⟨h9, -⟩ | ⟨g9, cp9, h9, -, -, -, -, hcell9, hfr9⟩
                  · cases h9
                  simp only [Value.slice.injEq, Option.some.injEq, Addr.mk.injEq] at h9
                  obtain ⟨⟨rfl, -, -⟩, -, -⟩ := h9
                  have hHk : k < H3.length := by have := HL3.out; omega
                  have hHv : v < H3.length := by have := HL3.out; omega
                  have c1 := hcell9 k hHk
                  have c2 := hcell9 v hHv
                  have f1 := hfr9 k
                  rw [← ha] at c1
                  rw [← hb] at c2
                  have g1 : IntKind.i64.wrap (b + 1) = b + 1 := IntWalk.i64_in _ (by omega)
                  obtain ⟨M, hM⟩ : ∃ M, M = if a < b + 1 then b + 1 else a := ⟨_, rfl⟩
                  have hM0 : 0 ≤ M ∧ M ≤ 1000 := by rw [hM]; split <;> omega
                  have hMm : max a (b + 1) = M := by rw [hM]; split <;> omega
                  have HSM := Lib.hid (show relW H2 v (memU (X : Int) (k + 1)) = H3.set k M by rw [HS.out, ← hMm, ha, hb]; rfl)
                  have HOS := Lib.hid (show OwnI q (wr.drew.setCell ⟨q, k, none⟩ (.int .i64 M)) (.slice (some ⟨q, 0, none⟩) N N) (relW H2 v (memU (X : Int) (k + 1))) by
                    have h1 : OwnI q wr.drew (.slice (some ⟨q, 0, none⟩) H3.length N) H3 := by rw [HL3.out]; exact hO3
                    have h2 := h1.set k M (by omega) (by omega)
                    rw [HL3.out] at h2
                    rw [HSM.out]
                    exact h2.1)
                  have HBS := Lib.hid (show Bd N (49 * (r : Int) + 7 * (v : Int) + ((k + 1 : Nat) : Int)) (relW H2 v (memU (X : Int) (k + 1))) by
                    rw [HS.out]
                    exact (HB3.out.rel hlk).mono (by omega))
                  have HBB := Lib.hid (show Below q w1 (wr.drew.setCell ⟨q, k, none⟩ (.int .i64 M)) from HBL.out.drew.setCell (p := ⟨q, k, none⟩) (Nat.le_refl _) _)
                  rw [hM] at HOS HBB
                  clear hcell9 hfr9 hO3 ha hb hMm hM0 hM HSM
                  go_wp2
                  go_still_tail 13, (by kernel_rfl)
                  change wpList _ _ _ _ _ wr.drew
                  go_wp2
                  go_roundw
                  case rel => exact ⟨k + 1, by omega, by go_num, HOS.out, HBS.out, HBB.out⟩
                  case measure => simp [intOf]; omega
              · obtain rfl : k = N := by omega
                have d2 : decide ((k : Int) < (k : Int)) = false := by simp
                have HE := Lib.hid (show relV T H1 (v + 1) = relW H2 v (memU (X : Int) k) by
                  have h1 : memU (X : Int) k = memU (X : Int) 7 := by
                    rw [memU_full (by rw [← HNL.out]; exact hXl) hN7, memU_nat]
                  show relW (relV T H1 v) v (memU (nth T v) 7) = _
                  rw [HXX.out, ← HH2.out, h1])
                go_wp2
                go_roundw
                case rel => exact ⟨v + 1, by omega, by go_num, by rw [HE.out]; exact HO3.out, by rw [HE.out]; exact Lib.hid (HB3.out.mono (by omega)), HBL.out⟩
                case measure => simp [intOf]; omega
          · obtain rfl : v = N := by omega
            have d1 : decide ((v : Int) < (v : Int)) = false := by simp
            have HE := Lib.hid (show relN T v (r + 1) = relV T H1 v by
              show relV T (relN T v r) v = _
              rw [← HH1.out])
            go_wp2
            go_roundw
            case rel => exact ⟨r + 1, by omega, by go_num, by rw [HE.out]; exact HO2.out, by rw [HE.out]; exact Lib.hid (HB2.out.mono (by omega)), HBL.out⟩
            case measure => simp [intOf]; omega
      · obtain rfl : r = N := by omega
        have d0 : decide ((r : Int) < (r : Int)) = false := by simp
        have HE := Lib.hid (show R = relN T r r by rw [HRR.out]; unfold hgtR; rw [if_pos HO.out, HNL.out])
        have HFB := Lib.hid (HPX.out _ (by rw [← HQ.out]; exact HBL.out)).2.2.2
        have hqw : w.heap.size ≤ q := by rw [HQ.out]; exact F1.out.size
        go_wp2
        go_ret
        exact ⟨_, rfl, by rw [HE.out]; exact HO1.out.mono hqw, HFB.out⟩

end Go.Proofs.Ytcpchdnhhjhpaaa
