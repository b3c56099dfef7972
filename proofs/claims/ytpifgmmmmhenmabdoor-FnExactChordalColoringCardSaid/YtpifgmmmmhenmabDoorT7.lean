/- EliminationOf: the specification's. -/
import Derived.Test.YtpifgmmmmhenmabDoorT6
namespace Go.Proofs.YtpifgmmmmhenmabDoor
set_option linter.unusedVariables false
set_option linter.unusedSimpArgs false
open Go.RowKit

set_option maxHeartbeats 2000000 in
set_option maxRecDepth 100000 in
theorem simpAny_is (n : Int) (v : Value) (l : List Int) (X k : Nat) (w : World) (h : Ints w v l) (hg : IsG n l) (hk : k < l.length) (hX : X < 128) :
    Calls Tryd.prog 80 #[.agg #[.int .i64 n, v], .int .i64 (k : Int), .int .i64 (X : Int)] w (fun e w' => e = .returned (.bool (elimF n l X k)) ∧ Below w.heap.size w w') := by
  obtain ⟨b, off, cap, rfl, _, hmx, hb, hcell⟩ := h.pos (by omega)
  have HA := argG' (T := 28) (n := n) h
  obtain ⟨z, hz⟩ : ∃ z, z = nth l k := ⟨_, rfl⟩
  have d1 := hcell k hk
  rw [← hz] at d1
  obtain ⟨y, hy⟩ : ∃ y, y = bits .and .i64 z (X : Int) := ⟨_, rfl⟩
  have e1 : bits .and .i64 z (X : Int) = y := hy.symm
  have hE : elimF n l X k = decide (CliqueS n l y) := by unfold elimF; rw [← hz, ← hy]
  rw [hE]
  have hk7 : k < 7 := by have := hg.2.1; have := hg.2.2.1; omega
  obtain ⟨w1, hw1⟩ : ∃ w1, w1 = w.alloc (.cells #[.int .i64 n, .slice (some ⟨b, off, none⟩) l.length cap] 28) := ⟨_, rfl⟩
  have HX : Hid (∀ X : Since w1, ArgG 28 w n (.slice (some ⟨b, off, none⟩) l.length cap) l X.val) := fun X => HA.out _ (since_below hw1 (by simp) X)
  have hx0 : ∀ X : Since w1, X.val.cell? ⟨w.heap.size, 0, none⟩ = some (.int .i64 n) := fun X => (HX.out X).1
  have hx1 : ∀ X : Since w1, X.val.cell? ⟨w.heap.size, 1, none⟩ = some (.slice (some ⟨b, off, none⟩) l.length cap) := fun X => (HX.out X).2.1
  have hx2 : ∀ X : Since w1, X.val.cell? ⟨b, off + k, none⟩ = some (.int .i64 z) := fun X => ((HX.out X).2.2.2.1.cell (p := ⟨b, off + k, none⟩) hb).trans d1
  have HC1 : Hid (∀ Y : Since w1, Calls Tryd.prog 97 #[.agg #[.int .i64 n, .slice (some ⟨b, off, none⟩) l.length cap], .int .i64 y] Y.val fun e w' => e = .returned (.bool (decide (CliqueS n l y))) ∧ Below Y.val.heap.size Y.val w') := fun Y => (specClique n _ l y _ (HX.out Y).2.2.1).mono fun _ _ h => h.dec
  obtain ⟨D, hD⟩ : ∃ D, D = decide (CliqueS n l y) := ⟨_, rfl⟩
  rw [← hD] at HC1 ⊢
  unfold maxLen at hmx
  clear h hcell d1 hz hg hy hE hD hX
  go_enter Tryd.func80, Tryd.ntmps80
  go_wp2
  rw [← hw1]
  clear hw1
  refine wp_region_since (by kernel_rfl) (by kernel_rfl) ?_
  repeat (go_big_quiet_step (exact since_call (HC1.out _)))
  refine wpQuiet_nil ?_
  intro Y
  have HW := Lib.hid (HX.out Y).2.2.2.1
  clear hx0 hx1 hx2 e1
  go_wp2
  go_ret
  exact ⟨rfl, HW.out⟩

def optV : Option Nat → Int
  | none => -1
  | some b => b

set_option maxHeartbeats 4000000 in
set_option maxRecDepth 100000 in
theorem specElim (n : Int) (v : Value) (l : List Int) (w : World) (h : Ints w v l) :
    Calls Tryd.prog 48 #[.agg #[.int .i64 n, v]] w (GetsLB w.heap.size w (elimR n l)) := by
  obtain ⟨i0, hi, hi0, hi1, hi2⟩ := info_parts infoInt
  obtain ⟨a, cap, rfl, -, -⟩ := h.form
  have HA := argG' (T := 28) (n := n) h
  have HI := Lib.hid h
  clear h
  obtain ⟨R, hR⟩ : ∃ R, R = elimR n l := ⟨_, rfl⟩
  have HR := Lib.hid hR
  rw [← hR]
  clear hR
  obtain ⟨w9, hw9⟩ : ∃ w9, w9 = (w.alloc (.cells #[.int .i64 n, .slice a l.length cap] 28)).alloc (.cells #[] 3) := ⟨_, rfl⟩
  have hb9 : Below (w.heap.size + 1) (w.alloc (.cells #[.int .i64 n, .slice a l.length cap] 28)) w9 := by rw [hw9]; exact (Below.refl _ _).alloc (by simp) _
  have HO9 := Lib.hid (show OwnI (w.heap.size + 1) w9 (.slice (some ⟨w.heap.size + 1, 0, none⟩) 0 0) [] by
    rw [hw9]
    have := OwnI.none0H (B := w.heap.size + 1) (w := w.alloc (.cells #[.int .i64 n, .slice a l.length cap] 28)) (by simp)
    simpa using this)
  obtain ⟨c0, c1, cI, cB, cz⟩ := HA.out _ hb9
  have HCI := Lib.hid cI
  have HB9 := Lib.hid hb9
  clear cI cB hb9
  go_enter Tryd.func48, Tryd.ntmps48
  go_wp2_with fail
  rw [← hw9]
  clear hw9
  refine (specIsG_any n _ l _ HCI.out).mono ?_
  rintro e w2 ⟨r, rfl, hr, hb⟩
  have HRR := Lib.hid hr
  have HB2 := Lib.hid (HB9.out.trans (hb.mono cz))
  have HO2 := Lib.hid (HO9.out.on hb)
  clear hb hr c0 c1 cz HO9 HB9
  obtain ⟨c0, c1, cI, cB, cz⟩ := HA.out _ HB2.out
  have HCB2 := Lib.hid cB
  clear cI cB
  cases r with
  | false =>
    have HN := Lib.hid (show R = none by rw [HR.out]; unfold elimR; rw [if_neg (fun h => absurd (HRR.out.2 h) (by decide))])
    go_wp2
    refine bodyPost_ret (v := .tuple #[.slice (some ⟨w.heap.size + 1, 0, none⟩) 0 0, .bool false]) (by simp [results, Tryd.results48, go_sem]) rfl ?_
    rw [HN.out]
    exact ⟨_, rfl, HO2.out.mono (by omega), HCB2.out⟩
  | true =>
    have HG := Lib.hid (HRR.out.1 (by first | rfl | trivial))
    obtain ⟨f1, f2⟩ := full_nat HG.out
    have hl7 : l.length ≤ 7 := by have := HG.out.2.1; have := HG.out.2.2.1; omega
    have hn0 := HG.out.1
    have hn7 := HG.out.2.1
    have hnl : n ≤ (l.length : Int) := by have := HG.out.2.2.1; omega
    have hln : (l.length : Int) ≤ n := by have := HG.out.2.2.1; omega
    obtain ⟨X0, hX0⟩ : ∃ X0, X0 = 2 ^ l.length - 1 := ⟨_, rfl⟩
    have HE := Lib.hid (show R = takeO (elimF n l) 7 [] X0 by rw [HR.out]; unfold elimR; rw [if_pos HG.out, hX0])
    rw [← hX0] at f1 f2
    have h128 := two_le l.length hl7
    obtain ⟨P, eP, hP1, hP2⟩ : ∃ P, (2 : Int) ^ n.toNat = P ∧ 1 ≤ P ∧ P ≤ 128 := ⟨_, rfl, (shl_one' n.toNat (by omega)).2.2.2.2, (shl_one' n.toNat (by omega)).2.2.2.1⟩
    rw [eP] at f1
    have g1 : IntKind.i64.wrap (1 * P) = P := IntWalk.i64_in _ (by omega) |>.trans (by omega)
    have g2 : IntKind.i64.wrap P = P := IntWalk.i64_in _ (by omega)
    have g3 : IntKind.i64.wrap (P - 1) = (X0 : Int) := (IntWalk.i64_in _ (by omega)).trans f1
    have HF2 := Lib.hid f2
    clear hX0 f1 f2
    go_wp2
    clear c0 c1 cz g1 g2 g3 eP hP1 hP2
    go_loopw [4, 5] (fun s x wr => ∃ (X fu : Nat) (L : List Int), X < 2 ^ l.length ∧ x = .int .i64 (X : Int) ∧ popN X ≤ fu ∧ L.length + fu ≤ 7 ∧ Hid (OwnI (w.heap.size + 1) wr s L) ∧ Hid (R = takeO (elimF n l) fu L X) ∧ Hid (Below (w.heap.size + 1) (w.alloc (.cells #[.int .i64 n, .slice a l.length cap] 28)) wr)) (fun _ x _ => (intOf x).toNat)
    case atStart =>
      refine ⟨X0, 7, [], HF2.out, rfl, ?_, by simp, HO2.out, HE.out, HB2.out⟩
      unfold popN memN
      exact Nat.le_trans (List.length_filter_le _ _) (by simp)
    case round =>
      clear HO2 HB2 HCB2
      obtain ⟨X, fu, L, hXl, rfl, hpop, hLf, HO, HRE, HB⟩ := hrel
      obtain ⟨c0, c1, cI, cB, cz⟩ := HA.out _ HB.out
      have HCI := Lib.hid cI
      have HCB := Lib.hid cB
      clear cI cB
      have hX7 : X < 128 := by omega
      by_cases hX0 : 0 < X
      · have d0 : decide (0 < (X : Int)) = true := decide_eq_true (by omega)
        have hpp := pop_pos hX0 hX7
        obtain ⟨fu', rfl⟩ : ∃ k, fu = k + 1 := ⟨fu - 1, by omega⟩
        go_wp2
        clear c0 c1 cz
        go_loopw [6, 7] (fun s c wy => ∃ d : Nat, d ≤ l.length ∧ c = .int .i64 ((l.length : Int) - 1 - (d : Int)) ∧ s = .int .i64 (optV (downB (fun v => X.testBit v && elimF n l X v) l.length d)) ∧ Hid (Below wr.heap.size wr wy)) (fun _ c _ => (intOf c + 1).toNat)
        case atStart => exact ⟨0, by omega, by go_num, rfl, Below.refl _ _⟩
        case round =>
          obtain ⟨d, hd, rfl, rfl, HBY⟩ := hrel
          have HBB := Lib.hid (HB.out.trans (HBY.out.mono (HA.out _ HB.out).2.2.2.2))
          obtain ⟨c0, c1, cI, cB, cz⟩ := HA.out _ HBB.out
          have HCI2 := Lib.hid cI
          clear cI cB
          obtain ⟨o, ho⟩ : ∃ o, o = downB (fun v => X.testBit v && elimF n l X v) l.length d := ⟨_, rfl⟩
          have HOO := Lib.hid ho
          rw [← ho]
          clear ho
          by_cases hlt : d < l.length
          · obtain ⟨k, hk⟩ : ∃ k : Nat, k = l.length - 1 - d := ⟨_, rfl⟩
            have hkl : k < l.length := by omega
            have ek : (l.length : Int) - 1 - (d : Int) = (k : Int) := by omega
            have HDN := Lib.hid (show downB (fun v => X.testBit v && elimF n l X v) l.length (d + 1) = if (X.testBit k && elimF n l X k) then some k else o by
              conv => lhs; unfold downB
              rw [← hk, HOO.out])
            have HEK := Lib.hid (show (l.length : Int) - 1 - ((d + 1 : Nat) : Int) = (k : Int) - 1 by omega)
            rw [ek]
            have hk7 : k < 7 := by omega
            obtain ⟨B, hB⟩ : ∃ B, B = X.testBit k := ⟨_, rfl⟩
            have e3 : bits .and .i64 ((X : Int) / 2 ^ k) 1 = if B then 1 else 0 := by
              rw [and_one_bit, hB]
              rcases bitAt_two (X : Int) k with h | h
              · rw [h, if_neg (by rw [← (bitAt_nat X k), h]; omega)]
              · rw [h, if_pos ((bitAt_nat X k).1 h)]
            rw [← hB] at HDN
            have HBT := Lib.hid hB
            clear hk ek hB
            cases B with
            | false =>
              have e4 : bits .and .i64 ((X : Int) / 2 ^ k) 1 = 0 := by simpa using e3
              have HD2 := Lib.hid (show downB (fun v => X.testBit v && elimF n l X v) l.length (d + 1) = o by rw [HDN.out]; simp)
              clear e3
              go_wp2
              go_roundw
              case rel => exact ⟨d + 1, by omega, by first | (rw [HEK.out]; go_num) | rw [HEK.out], by rw [HD2.out], HBY.out⟩
              case measure => first | (simp [intOf]; omega) | simp [intOf]
            | true =>
              have e4 : bits .and .i64 ((X : Int) / 2 ^ k) 1 = 1 := by simpa using e3
              clear e3
              go_wp2_with fail
              refine (simpAny_is n _ l X k _ HCI2.out HG.out hkl hX7).mono ?_
              rintro e w5 ⟨rfl, hb5⟩
              have HB5 := Lib.hid (HBY.out.trans (hb5.mono HBY.out.size))
              obtain ⟨E, hE⟩ : ∃ E, E = elimF n l X k := ⟨_, rfl⟩
              rw [← hE] at HDN ⊢
              clear hb5 c0 c1 cz hE
              cases E with
              | false =>
                have HD2 := Lib.hid (show downB (fun v => X.testBit v && elimF n l X v) l.length (d + 1) = o by rw [HDN.out]; simp)
                go_wp2
                go_roundw
                case rel => exact ⟨d + 1, by omega, by first | (rw [HEK.out]; go_num) | rw [HEK.out], by rw [HD2.out], HB5.out⟩
                case measure => first | (simp [intOf]; omega) | simp [intOf]
              | true =>
                have HD2 := Lib.hid (show downB (fun v => X.testBit v && elimF n l X v) l.length (d + 1) = some k by rw [HDN.out]; simp)
                go_wp2
                go_roundw
                case rel => exact ⟨d + 1, by omega, by first | (rw [HEK.out]; go_num) | rw [HEK.out], by rw [HD2.out]; rfl, HB5.out⟩
                case measure => first | (simp [intOf]; omega) | simp [intOf]
          · obtain rfl : d = l.length := by omega
            have ek : (l.length : Int) - 1 - (l.length : Int) = -1 := by omega
            have HFI := Lib.hid (show o = (memN X).find? (elimF n l X) by rw [HOO.out, down_all, find_mem X l.length hl7 hXl])
            have HOY := Lib.hid (HO.out.on HBY.out)
            rw [ek]
            clear ek c0 c1
            cases o with
            | none =>
              have HN := Lib.hid (show R = none by rw [HRE.out, takeO_none hX0 HFI.out.symm])
              have HO6 := Lib.hid (OwnI.none0H (B := w.heap.size + 1) (w := wr) cz)
              have HB6 := Lib.hid (((HA.out _ HBB.out).2.2.2.1).alloc (by omega) (.cells #[] 3))
              rw [show optV none = -1 from rfl]
              go_wp2
              refine bodyPost_ret (v := .tuple #[.slice (some ⟨wr.heap.size, 0, none⟩) 0 0, .bool false]) (by simp [results, Tryd.results48, go_sem]) rfl ?_
              rw [HN.out]
              exact ⟨_, rfl, HO6.out.mono (by omega), HB6.out⟩
            | some b =>
              obtain ⟨n1, n2, n3, n4, n5, n6⟩ := find_facts hX7 HFI.out.symm
              have HNX := Lib.hid (show R = takeO (elimF n l) fu' (L ++ [(b : Int)]) (X - 2 ^ b) by rw [HRE.out, takeO_some hX0 HFI.out.symm])
              obtain ⟨P2, eP2, hP21, hP22⟩ : ∃ P, (2 : Int) ^ b = P ∧ 1 ≤ P ∧ P ≤ 128 := ⟨_, rfl, (shl_one' b (by omega)).2.2.2.2, (shl_one' b (by omega)).2.2.2.1⟩
              have g3 : IntKind.i64.wrap (1 * P2) = P2 := IntWalk.i64_in _ (by omega) |>.trans (by omega)
              have g4 : IntKind.i64.wrap P2 = P2 := IntWalk.i64_in _ (by omega)
              obtain ⟨X', hX'⟩ : ∃ z, z = X - 2 ^ b := ⟨_, rfl⟩
              have g5 : IntKind.i64.wrap ((X : Int) - P2) = (X' : Int) := by
                have e2 : P2 = ((2 ^ b : Nat) : Int) := by rw [← eP2]; push_cast; rfl
                have e5 : (X : Int) - P2 = (X' : Int) := by rw [e2, hX']; omega
                rw [e5]
                exact IntWalk.i64_in _ (by omega)
              rw [← hX'] at n5 HNX
              have hX'l : X' < 2 ^ l.length := by rw [hX']; exact Nat.lt_of_le_of_lt (Nat.sub_le _ _) hXl
              have hX'X : X' < X := by have : 0 < 2 ^ b := Nat.pow_pos (by decide); omega
              have HPOP := Lib.hid (show popN X' ≤ fu' by omega)
              have hz3 := cz
              have hLl : L.length ≤ 7 := by omega
              clear n2 n3 n4 n5 n6 hX' hpop hpp
              rw [show optV (some b) = (b : Int) from rfl]
              go_wp2_with (at_builtin; refine wpList_append_int rfl (.tmp 41) (.tmp 43) 22 rfl (w.heap.size + 1) i0 Tryd.underlying22 hi hi0 hi1 hi2 _ _ rfl HOY.out (b : Int) (by omega) (by omega) rfl (by omega) hz3 ?_)
              intro v' w4 ho4 hg4 hv4
              have HO4 := Lib.hid ho4
              have HB4 := Lib.hid ((HBB.out.alloc hz3 (.cells #[.int .i64 (b : Int)] 3)).grown hg4 (by simp; omega) (fun k hk => (HOY.out.lt k hk).1))
              clear ho4 hg4
              go_wp2
              go_roundw
              case rel => exact ⟨X', fu', L ++ [(b : Int)], hX'l, rfl, HPOP.out, by simp; omega, HO4.out, HNX.out, HB4.out⟩
              case measure => first | (simp [intOf]; omega) | simp [intOf]
      · obtain rfl : X = 0 := by omega
        have HRL := Lib.hid (show R = some L by rw [HRE.out, takeO_zero])
        go_wp2
        refine bodyPost_ret (v := .tuple #[_, .bool true]) (by simp [results, Tryd.results48, go_sem] <;> rfl) rfl ?_
        rw [HRL.out]
        exact ⟨_, rfl, HO.out.mono (by omega), HCB.out⟩

end Go.Proofs.YtpifgmmmmhenmabDoor
