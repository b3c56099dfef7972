/- GraphOfArcs: the specification's. -/
import Derived.Test.YtcpchdnhhjhpaaaY25
import Derived.Test.YtcpchdnhhjhpaaaY18
namespace Go.Proofs.Ytcpchdnhhjhpaaa
set_option linter.unusedVariables false
set_option linter.unusedSimpArgs false
open Go.RowKit

set_option maxHeartbeats 4000000 in
set_option maxRecDepth 100000 in
theorem specGArcs (n : Int) (v u : Value) (l m : List Int) (w : World) (h : Ints w v l) (g : Ints w u m) (hl : l.length ≤ 1048576) (hm : m.length ≤ 1048576) :
    Calls Try.prog 30 #[.agg #[.int .i64 n, v, u]] w (GetsGB w.heap.size w (arcsN n l m) (arcsL n l m) (decide (ArcsP n l m))) := by
  obtain ⟨ad, cap, rfl, -, -⟩ := h.form
  obtain ⟨bd, cap', rfl, -, -⟩ := g.form
  have HI := Lib.hid h
  have HJ := Lib.hid g
  clear h g
  obtain ⟨w0, hw0⟩ : ∃ w0, w0 = (w.alloc (.cells #[.int .i64 n, .slice ad l.length cap, .slice bd m.length cap'] 41)) := ⟨_, rfl⟩
  have F0 := Lib.hid (show Below w.heap.size w w0 by rw [hw0]; exact (Below.refl _ w).alloc (Nat.le_refl _) _)
  have A0 := Lib.hid (show Box w.heap.size [.int .i64 n, .slice ad l.length cap, .slice bd m.length cap'] w0 by rw [hw0]; exact Box.new w _ _)
  have hz0 : w0.heap.size = w.heap.size + 1 := by rw [hw0]; simp
  obtain ⟨w1, hw1⟩ : ∃ w1, w1 = w0.alloc (.cells #[.int .i64 0, .slice none 0 0] 28) := ⟨_, rfl⟩
  have BL1 := Lib.hid (show Blank w0.heap.size w1 by rw [hw1]; exact Blank.new w0 _)
  have BB1 := Lib.hid (show Below w0.heap.size w0 w1 by rw [hw1]; exact (Below.refl _ w0).alloc (Nat.le_refl _) _)
  have A1 := Lib.hid (A0.out.on BB1.out)
  obtain ⟨b, hbb⟩ : ∃ b, b = decide (ArcsP n l m) := ⟨_, rfl⟩
  have HBB := Lib.hid hbb
  rw [← hbb]
  clear hbb
  have x0 : w1.cell? ⟨w.heap.size, 0, none⟩ = some (.int .i64 n) := A1.out.1 0 _ rfl
  have x1 : w1.cell? ⟨w.heap.size, 1, none⟩ = some (.slice ad l.length cap) := A1.out.1 1 _ rfl
  have x2 : w1.cell? ⟨w.heap.size, 2, none⟩ = some (.slice bd m.length cap') := A1.out.1 2 _ rfl
  go_enter Try.func30, Try.ntmps30
  go_wp2_with fail
  rw [← hw0, ← hw1]
  clear hw1
  refine (specIsArcs n _ _ l m _ (HI.out.on (F0.out.trans (BB1.out.mono F0.out.size))) (HJ.out.on (F0.out.trans (BB1.out.mono F0.out.size))) hl hm).mono ?_
  rintro e w2 ⟨r, rfl, hr, hb⟩
  have HR := Lib.hid hr
  have BL2 := Lib.hid (BL1.out.keep (below_grown hb) (by simp))
  have BB2 := Lib.hid (BB1.out.trans (hb.mono BB1.out.size))
  clear hb hr BL1 BB1 hw0 x0 x1 x2
  cases r with
  | false =>
    have hiv : ¬ ArcsP n l m := fun h => absurd (HR.out.2 h) (by decide)
    obtain rfl : b = false := by rw [HBB.out]; exact decide_eq_false hiv
    have HN := Lib.hid (show arcsN n l m = 0 ∧ arcsL n l m = [] by unfold arcsN arcsL; simp [hiv])
    obtain ⟨b0, b1, b2, b3, b4⟩ := BL2.out
    rw [hz0] at b0 b1 b2 b3 b4
    clear hiv
    go_wp2
    refine bodyPost_ret (v := .tuple #[.agg #[.int .i64 0, .slice none 0 0], .bool false]) (by simp [results, Try.results30, go_sem, b0, b1, b2, b3, b4] <;> rfl) rfl ?_
    rw [HN.out.1, HN.out.2]
    refine ⟨_, rfl, ⟨inI64_nil, World.ownsRow_nil _ _ _ _⟩, ?_⟩
    exact F0.out.trans (((BB2.out.setCell (p := ⟨w.heap.size + 1, 0, none⟩) (by show w0.heap.size ≤ w.heap.size + 1; omega) _).setCell (p := ⟨w.heap.size + 1, 1, none⟩) (by show w0.heap.size ≤ w.heap.size + 1; omega) _).mono F0.out.size)
  | true =>
    have HV := Lib.hid (HR.out.1 (by first | rfl | trivial))
    obtain rfl : b = true := by rw [HBB.out]; exact decide_eq_true HV.out
    have HN := Lib.hid (show arcsN n l m = (l.length : Int) ∧ arcsL n l m = adjL l.length (symR (meetB n l m)) by unfold arcsN arcsL; rw [if_pos HV.out, if_pos HV.out]; exact ⟨rfl, rfl⟩)
    obtain ⟨hl1, hl7⟩ := HV.out.2.1
    have hml : l.length ≤ m.length := by have := HV.out.2.2.1; omega
    have hmk := fun W : World => run_make_row' (P := Try.prog) 22 3 (.int .i64 0) 8 Try.underlying22 infoInt rfl .i64 .i64 l.length (by omega) (by omega) W
    have x1 : w2.cell? ⟨w.heap.size, 1, none⟩ = some (.slice ad l.length cap) := (A0.out.on BB2.out).1 1 _ rfl
    go_wp2
    clear hmk x1
    go_loopw [6] (fun i wr => ∃ (k : Nat) (u : Value), k ≤ l.length ∧ i = .int .i64 k ∧ CurQ w0 (w2.heap.size + 1) l.length (adjL l.length (partR (meetB n l m) k 0)) u wr) (fun i _ => l.length - (intOf i).toNat)
    case atStart => exact ⟨0, _, by omega, rfl, CurQ.init w0 w2 l.length _ hl7 BL2.out BB2.out⟩
    case round =>
      obtain ⟨i, u, hi, rfl, hC⟩ := hrel
      by_cases hin : i < l.length
      · have HC0 := Lib.hid hC
        clear hC
        go_wp2
        go_loopw [7] (fun x wr => ∃ (m_ : Nat) (u : Value), m_ ≤ i ∧ x = .int .i64 m_ ∧ CurQ w0 (w2.heap.size + 1) l.length (adjL l.length (partR (meetB n l m) i m_)) u wr) (fun x _ => i - (intOf x).toNat)
        case atStart => exact ⟨0, u, by omega, rfl, HC0.out⟩
        case round =>
          clear HC0
          obtain ⟨j, u, hji, rfl, hC⟩ := hrel
          have HC := Lib.hid hC
          clear hC
          by_cases hj7 : j < i
          · have HWW := Lib.hid (F0.out.trans (HC.out.2.2.2.1.mono F0.out.size))
            obtain ⟨b', off', cap1, hv, _, _, hb', hcell⟩ := (HI.out.on HWW.out).pos (by omega)
            simp only [Value.slice.injEq] at hv
            obtain ⟨rfl, -, rfl⟩ := hv
            have hil : i < l.length := hin
            have hjl : j < l.length := by omega
            obtain ⟨x, hx⟩ : ∃ z, z = nth l i := ⟨_, rfl⟩
            obtain ⟨x', hx'⟩ : ∃ z, z = nth l j := ⟨_, rfl⟩
            have HXB := Lib.hid (show meetB n l m j i = decide (ArcOn n l m j x ∨ ArcOn n l m i x') by rw [hx, hx']; exact meet_iff HV.out hjl hil)
            obtain ⟨B1, hB1⟩ : ∃ z, z = decide (ArcOn n l m i x') := ⟨_, rfl⟩
            obtain ⟨B2, hB2⟩ : ∃ z, z = decide (ArcOn n l m j x) := ⟨_, rfl⟩
            have HMB := Lib.hid (show meetB n l m j i = (B1 || B2) by rw [HXB.out, hB1, hB2, Bool.eq_iff_iff]; simp; exact Or.comm)
            have e0 : ∀ X : Since wr, X.val.cell? ⟨b', off' + i, none⟩ = some (.int .i64 x) := fun X => by rw [hx]; exact (X.prop.cell (p := ⟨b', off' + i, none⟩) hb').trans (hcell i hil)
            have e1 : ∀ X : Since wr, X.val.cell? ⟨b', off' + j, none⟩ = some (.int .i64 x') := fun X => by rw [hx']; exact (X.prop.cell (p := ⟨b', off' + j, none⟩) hb').trans (hcell j hjl)
            have HAX : Hid (∀ X : Since wr, Box w.heap.size [.int .i64 n, .slice (some ⟨b', off', none⟩) l.length cap, .slice bd m.length cap'] X.val) := fun X => (A0.out.on HC.out.2.2.2.1).on X.prop
            have x0 : ∀ X : Since wr, X.val.cell? ⟨w.heap.size, 0, none⟩ = some (.int .i64 n) := fun X => (HAX.out X).1 0 _ rfl
            have x1 : ∀ X : Since wr, X.val.cell? ⟨w.heap.size, 1, none⟩ = some (.slice (some ⟨b', off', none⟩) l.length cap) := fun X => (HAX.out X).1 1 _ rfl
            have x2 : ∀ X : Since wr, X.val.cell? ⟨w.heap.size, 2, none⟩ = some (.slice bd m.length cap') := fun X => (HAX.out X).1 2 _ rfl
            have HC1 : Hid (∀ X : Since wr, Calls Try.prog 81 #[.agg #[.int .i64 n, .slice (some ⟨b', off', none⟩) l.length cap, .slice bd m.length cap'], .int .i64 i, .int .i64 x'] X.val fun e w' => e = .returned (.bool B1) ∧ Below X.val.heap.size X.val w') := fun X => by
              rw [hB1]; exact (specOn n _ _ l m i x' X.val ((HI.out.on HWW.out).on X.prop) ((HJ.out.on HWW.out).on X.prop) ⟨HV.out, by rw [hx']; exact ⟨(HV.out.2.2.2 j hjl).1, (HV.out.2.2.2 j hjl).2.1⟩⟩ hil).mono fun _ _ h => h.dec
            have HC2 : Hid (∀ X : Since wr, Calls Try.prog 81 #[.agg #[.int .i64 n, .slice (some ⟨b', off', none⟩) l.length cap, .slice bd m.length cap'], .int .i64 j, .int .i64 x] X.val fun e w' => e = .returned (.bool B2) ∧ Below X.val.heap.size X.val w') := fun X => by
              rw [hB2]; exact (specOn n _ _ l m j x X.val ((HI.out.on HWW.out).on X.prop) ((HJ.out.on HWW.out).on X.prop) ⟨HV.out, by rw [hx]; exact ⟨(HV.out.2.2.2 i hil).1, (HV.out.2.2.2 i hil).2.1⟩⟩ hjl).mono fun _ _ h => h.dec
            have HYES : Hid (∀ (X : Since wr), (B1 || B2) = true → ∀ e w5, GetsGB X.val.heap.size X.val l.length (flipE (adjL l.length (partR (meetB n l m) i j)) (i : Int).toNat (j : Int).toNat) true e w5 → ∃ a5 cap5, e = .returned (.tuple #[.agg #[.int .i64 l.length, .slice a5 (adjL l.length (partR (meetB n l m) i (j + 1))).length cap5], .bool true]) ∧ BoxF (w2.heap.size + 1) l.length u w5 ∧ CurQ w0 (w2.heap.size + 1) l.length (adjL l.length (partR (meetB n l m) i (j + 1))) (.slice a5 (adjL l.length (partR (meetB n l m) i (j + 1))).length cap5) ((w5.setCell ⟨w2.heap.size + 1, 0, none⟩ (.int .i64 l.length)).setCell ⟨w2.heap.size + 1, 1, none⟩ (.slice a5 (adjL l.length (partR (meetB n l m) i (j + 1))).length cap5))) := fun X hB e w5 => by
              rintro ⟨v5, rfl, ho, hb⟩
              rw [Int.toNat_natCast, Int.toNat_natCast, part_step' l.length (meetB n l m) i j hin hj7 (by rw [HMB.out]; exact hB)] at ho
              obtain ⟨a5, cap5, rfl, -, -⟩ := ho.ints.form
              exact ⟨a5, cap5, rfl, (HC.out.on X.prop).2.1.keep (below_grown hb) (by simp), (HC.out.on X.prop).next ho hb⟩
            have HOK := Lib.hid (part_ok l.length (meetB n l m) i j hl1 hl7 hin hj7)
            clear hcell hx hx' hB1 hB2
            by_cases hB : (B1 || B2) = true
            · have HBB2 := Lib.hid hB
              have hcs : (B1 = true) ∨ (B1 = false ∧ B2 = true) := by cases B1 <;> cases B2 <;> simp at hB ⊢
              clear hB
              rcases hcs with rfl | ⟨rfl, rfl⟩
              all_goals
                go_wp2
                refine wp_region_since (by kernel_rfl) (by kernel_rfl) ?_
                repeat (go_big_quiet_step (first | with_reducible exact since_call (HC1.out _) | with_reducible exact since_call (HC2.out _)))
                refine wpQuiet_nil ?_
                intro X
                have HCX := Lib.hid (HC.out.on X.prop)
                obtain ⟨⟨c0, c1, cz⟩, c2, c3⟩ := HCX.out.2.1
                clear e0 e1 x0 x1 x2
                go_wp2_with fail
                refine (specAddEdge_yes l.length _ (adjL l.length (partR (meetB n l m) i j)) i j _ HCX.out.1.ints (by rw [adjL_length]; omega) HCX.out.1.nilform HOK.out).mono ?_
                intro e w5 hg5
                obtain ⟨a5, cap5, rfl, hbf, hcn⟩ := HYES.out X HBB2.out e w5 hg5
                have HC5 := Lib.hid hcn
                obtain ⟨⟨g0, g1, gz⟩, g2, g3⟩ := hbf
                clear c0 c1 cz c2 c3 hg5 hcn
                go_wp2
                go_roundw
                case rel => exact ⟨j + 1, _, by omega, by go_num, HC5.out⟩
                case measure => simp [intOf]; omega
            · have HBB2 := Lib.hid (show (B1 || B2) = false by simpa using hB)
              have hcs : B1 = false ∧ B2 = false := by cases B1 <;> cases B2 <;> simp at hB ⊢
              clear hB
              obtain ⟨rfl, rfl⟩ := hcs
              have HY := Lib.hid (part_same l.length (meetB n l m) i j hj7 (by rw [HMB.out]; rfl))
              go_wp2
              refine wp_region_since (by kernel_rfl) (by kernel_rfl) ?_
              repeat (go_big_quiet_step (first | with_reducible exact since_call (HC1.out _) | with_reducible exact since_call (HC2.out _)))
              refine wpQuiet_nil ?_
              intro X
              have HCX := Lib.hid (HC.out.on X.prop)
              clear e0 e1 x0 x1 x2
              go_wp2
              go_roundw
              case rel => exact ⟨j + 1, u, by omega, by go_num, by rw [← HY.out]; exact HCX.out⟩
              case measure => simp [intOf]; omega
          · obtain rfl : j = i := by omega
            have HY := Lib.hid (show adjL l.length (partR (meetB n l m) (j + 1) 0) = adjL l.length (partR (meetB n l m) j j) from adjL_congr l.length _ _ fun a _ b _ => (partR_next (meetB n l m) j a b).symm)
            go_wp2
            go_roundw
            case rel => exact ⟨j + 1, u, by omega, by go_num, by rw [HY.out]; exact HC.out⟩
            case measure => simp [intOf]; omega
      · obtain rfl : i = l.length := by omega
        have HALL := Lib.hid (show adjL l.length (symR (meetB n l m)) = adjL l.length (partR (meetB n l m) l.length 0) from adjL_congr l.length _ _ fun a ha b hb => (partR_all (meetB n l m) l.length a b ha hb).symm)
        have hsz := Lib.hid BB2.out.size
        obtain ⟨hown, ⟨⟨c0, c1, cz⟩, c2, c3⟩, ⟨b0, b1, b2, b3, b4⟩, hbel, -⟩ := hC
        rw [hz0] at b0 b1 b2 b3 b4
        obtain ⟨au, capu, rfl, -, -⟩ := hown.ints.form
        have HO := Lib.hid hown
        have HB := Lib.hid hbel
        clear hown hbel
        go_wp2
        refine bodyPost_ret (v := .tuple #[.agg #[.int .i64 l.length, .slice au _ capu], .bool true]) (by simp [results, Try.results30, go_sem, b0, b1, b2, b3] <;> rfl) rfl ?_
        rw [HN.out.1, HN.out.2, HALL.out]
        refine ⟨_, rfl, ?_, ?_⟩
        · exact ((HO.out.setBelow (a := ⟨w.heap.size + 1, 0, none⟩) (by show w.heap.size + 1 < w0.heap.size + 1; omega) _).setBelow (a := ⟨w.heap.size + 1, 1, none⟩) (by show w.heap.size + 1 < w0.heap.size + 1; omega) _).mono (by omega)
        · exact F0.out.trans (((HB.out.setCell (p := ⟨w.heap.size + 1, 0, none⟩) (by show w0.heap.size ≤ w.heap.size + 1; omega) _).setCell (p := ⟨w.heap.size + 1, 1, none⟩) (by show w0.heap.size ≤ w.heap.size + 1; omega) _).mono F0.out.size)

end Go.Proofs.Ytcpchdnhhjhpaaa
