/- impl.CanonicalCycle. -/
import Derived.Test.YteikiifjiapjaabCc
import Derived.Lib.SliceRun
import Derived.WalkSpells
namespace Go.Proofs.Yteikiifjiapjaab
set_option linter.unusedVariables false
set_option linter.unusedSimpArgs false
open Go.RowKit

set_option maxHeartbeats 1000000 in
set_option maxRecDepth 100000 in
theorem slicesMin (v : Value) (l : List Int) (w : World) (h : Ints w v l) (h0 : 0 < l.length) :
    Calls Try.prog 73 #[v] w fun e w' => e = .returned (.int .i64 (nth l (kM l l.length))) ∧ w = w' := by
  obtain ⟨b, off, cap, rfl, _, hm, hb, hcell⟩ := h.pos h0
  have HC := Lib.hid hcell
  have c0 : w.cell? ⟨b, off, none⟩ = some (.int .i64 (nth l 0)) := hcell 0 h0
  unfold maxLen at hm
  obtain ⟨x0, hx0⟩ : ∃ x, x = nth l 0 := ⟨_, rfl⟩
  rw [← hx0] at c0
  have HX0 := Lib.hid hx0
  have hlf : decide ((l.length : Int) < 1) = false := decide_eq_false (by omega)
  clear h hcell hx0
  go_enter Try.func73, Try.ntmps73
  go_wp2
  clear hlf
  go_loop [3, 4] (fun m c => ∃ i : Nat, 1 ≤ i ∧ i ≤ l.length ∧ c = .int .i64 i ∧ m = .int .i64 (nth l (kM l i))) (fun _ c => l.length - (intOf c).toNat)
  case atStart => exact ⟨1, by omega, by omega, rfl, by rw [kM_one, HX0.out]⟩
  case round =>
    clear c0
    obtain ⟨i, hi1, hi, rfl, rfl⟩ := hrel
    obtain ⟨y, hy⟩ : ∃ y, y = nth l (kM l i) := ⟨_, rfl⟩
    rw [← hy]
    have HY := Lib.hid hy
    clear hy
    by_cases hlt : i < l.length
    · obtain ⟨x, hx⟩ : ∃ x, x = nth l i := ⟨_, rfl⟩
      have c1 := HC.out i hlt
      rw [← hx] at c1
      have HS := Lib.hid (show nth l (kM l (i + 1)) = if x < y then x else y by
        rw [hx, HY.out]
        show nth l (if nth l i < nth l (kM l i) then i else kM l i) = _
        split <;> rfl)
      clear hx
      by_cases hxy : x < y
      · have q0 : decide (x < y) = true := decide_eq_true hxy
        have q1 : min y x = x := by omega
        have q2 : min x y = x := by omega
        have HN := Lib.hid (show nth l (kM l (i + 1)) = x by rw [HS.out, if_pos hxy])
        go_wp2
        go_round
        case rel => exact ⟨i + 1, by omega, by omega, by go_num, by rw [HN.out]⟩
        case measure => simp [intOf]; omega
      · have q0 : decide (x < y) = false := decide_eq_false hxy
        have q1 : min y x = y := by omega
        have q2 : min x y = y := by omega
        have HN := Lib.hid (show nth l (kM l (i + 1)) = y by rw [HS.out, if_neg hxy])
        go_wp2
        go_round
        case rel => exact ⟨i + 1, by omega, by omega, by go_num, by rw [HN.out]⟩
        case measure => simp [intOf]; omega
    · obtain rfl : i = l.length := by omega
      go_wp2
      go_ret
      exact ⟨by rw [HY.out]; rfl, rfl⟩

set_option maxHeartbeats 1000000 in
set_option maxRecDepth 100000 in
theorem slicesClone (v : Value) (l : List Int) (w : World) (h : Ints w v l) (hnil : v = .slice none 0 0 ∨ ∃ ad cap, v = .slice (some ad) l.length cap) (hlen : l.length ≤ 1048576) :
    Calls Try.prog 71 #[v] w (GetsI w.heap.size w l) := by
  obtain ⟨i0, hi, hz0, hz1, hz2⟩ := info_parts infoInt
  have HNIL := Lib.hid hnil
  have HL := Lib.hid h
  have HE := Lib.hid (OwnI.lit0 w w.heap.size (Nat.le_refl _))
  have HB0 := Lib.hid ((Below.refl w.heap.size w).alloc (Nat.le_refl _) (.cells #[] 3))
  have qT : ∀ (w : World) (a : Option Addr) (n c n' c' : Nat), (binOp .eql 22 (.slice a n c) (.slice none n' c')).run Try.prog w = .ok (.bool a.isNone) w := fun w a n c n' c' => Lib.run_eql_slice_nil w _ _ a n c n' c' Try.underlying22
  have j0 : (none : Option Addr).isNone = true := rfl
  have j1 : ∀ a : Addr, (some a).isNone = false := fun _ => rfl
  rcases hnil with rfl | ⟨ad, cap, rfl⟩
  · have HLN := Lib.hid (show l = [] from HL.out.none_nil)
    clear h
    go_enter Try.func71, Try.ntmps71
    go_wp2
    go_ret
    exact ⟨_, rfl, by rw [HLN.out]; exact OwnI.nil0 _ _, Below.refl _ _⟩
  · clear h
    go_enter Try.func71, Try.ntmps71
    go_wp2_with (at_builtin; refine wpList_append_ints rfl (.tmp 5) (.tmp 6) 22 rfl w.heap.size i0 Try.underlying22 hi hz0 hz1 hz2 _ [] rfl HE.out _ l rfl (HL.out.alloc _) HNIL.out (by simp; omega) (by simp) ?_)
    intro v1 w1 ho1 hg1 hne1
    have HO1 := Lib.hid (show OwnI w.heap.size w1 v1 l from ho1)
    have HW := Lib.hid (HB0.out.grown hg1 (by simp) (fun q hq => (HE.out.lt q hq).1))
    clear ho1 hg1 hne1
    go_wp2
    go_ret
    exact ⟨_, rfl, HO1.out, HW.out⟩

/-- The list while it is filled. -/
def fillC (l : List Int) (i : Nat) : List Int := (List.range l.length).map fun j => if j < i then nth l (canI l j) else 0

theorem fillC_length (l : List Int) (i : Nat) : (fillC l i).length = l.length := by simp [fillC]

theorem fillC_nth (l : List Int) (i j : Nat) (h : j < l.length) : nth (fillC l i) j = if j < i then nth l (canI l j) else 0 := by
  simp [fillC, nth, List.getD, h]

theorem fillC_set (l : List Int) (i : Nat) (h : i < l.length) : (fillC l i).set i (nth l (canI l i)) = fillC l (i + 1) := by
  refine list_ext_nth (by rw [List.length_set, fillC_length, fillC_length]) fun j hj => ?_
  rw [List.length_set, fillC_length] at hj
  rw [nth_set _ _ _ _ (by rw [fillC_length]; exact h), fillC_nth _ _ _ hj, fillC_nth _ _ _ hj]
  by_cases he : j = i
  · subst he; rw [if_pos rfl, if_pos (by omega)]
  · rw [if_neg he]
    by_cases hlt : j < i
    · rw [if_pos hlt, if_pos (by omega)]
    · rw [if_neg hlt, if_neg (by omega)]

theorem fillC_all (l : List Int) : fillC l l.length = canL l l.length := by
  refine List.map_congr_left fun j hj => ?_
  rw [if_pos (List.mem_range.1 hj)]

theorem fillC_in {l : List Int} (h : inI64 l) (i : Nat) : inI64 (fillC l i) := fun x hx => by
  obtain ⟨j, -, rfl⟩ := List.mem_map.1 hx
  split
  · exact nth_in h _
  · omega

set_option maxHeartbeats 4000000 in
set_option maxRecDepth 100000 in
theorem implCan (v : Value) (l : List Int) (w : World) (h : Ints w v l) (hnil : v = .slice none 0 0 ∨ ∃ ad cap, v = .slice (some ad) l.length cap) (hlen : l.length ≤ 1048576) :
    Calls Try.prog 18 #[v] w (GetsI w.heap.size w (canR l)) := by
  have HNIL := Lib.hid hnil
  obtain ⟨al, capl, rfl, hcl, hml⟩ := h.form
  have HL := Lib.hid h
  unfold maxLen at hml
  obtain ⟨R, hR⟩ : ∃ R, R = canR l := ⟨_, rfl⟩
  have HR := Lib.hid hR
  rw [← hR]
  clear h hR hnil
  by_cases hsm : l.length < 3 ∨ 20 < l.length
  · have HN := Lib.hid (show R = l by rw [HR.out]; unfold canR; rw [if_pos hsm])
    by_cases h3 : l.length < 3
    · have d0 : decide ((l.length : Int) < 3) = true := decide_eq_true (by omega)
      clear hsm h3
      go_enter Try.func18, Try.ntmps18
      go_wp2_with fail
      refine (slicesClone _ l _ HL.out HNIL.out hlen).mono ?_
      rintro e w1 ⟨v1, rfl, ho, hb⟩
      have HO := Lib.hid ho
      have HB := Lib.hid hb
      clear ho hb
      go_wp2
      go_ret
      exact ⟨_, rfl, by rw [HN.out]; exact HO.out, HB.out⟩
    · have d0 : decide ((l.length : Int) < 3) = false := decide_eq_false (by omega)
      have d1 : decide ((l.length : Int) > 20) = true := decide_eq_true (by omega)
      have d2 : decide ((20 : Int) < (l.length : Int)) = true := decide_eq_true (by omega)
      clear hsm h3
      go_enter Try.func18, Try.ntmps18
      go_wp2_with fail
      refine (slicesClone _ l _ HL.out HNIL.out hlen).mono ?_
      rintro e w1 ⟨v1, rfl, ho, hb⟩
      have HO := Lib.hid ho
      have HB := Lib.hid hb
      clear ho hb
      go_wp2
      go_ret
      exact ⟨_, rfl, by rw [HN.out]; exact HO.out, HB.out⟩
  · have h3 : 3 ≤ l.length := by omega
    have h20 : l.length ≤ 20 := by omega
    have d0 : decide ((l.length : Int) < 3) = false := decide_eq_false (by omega)
    have d1 : decide ((l.length : Int) > 20) = false := decide_eq_false (by omega)
    have d2 : decide ((20 : Int) < (l.length : Int)) = false := decide_eq_false (by omega)
    have HN := Lib.hid (show R = canL l l.length by rw [HR.out]; unfold canR; rw [if_neg hsm])
    obtain ⟨b, off, capl', hv, -, -, hb, hcell⟩ := HL.out.pos (by omega)
    simp only [Value.slice.injEq] at hv
    obtain ⟨rfl, -, rfl⟩ := hv
    have HC := Lib.hid hcell
    have hkl := kM_lt l (by omega) l.length (Nat.le_refl _)
    obtain ⟨K, hK⟩ : ∃ K, K = kM l l.length := ⟨_, rfl⟩
    rw [← hK] at hkl
    have HK := Lib.hid hK
    have hfirst : ∀ j, j < K → nth l j ≠ nth l K := fun j hj he => by
      have := kM_first l l.length j (by rw [← hK]; exact hj)
      rw [← hK, he] at this
      omega
    have HFI := Lib.hid hfirst
    have hmk := fun W : World => run_make_row' (P := Try.prog) 22 3 (.int .i64 0) 8 Try.underlying22 infoInt rfl .i64 .i64 l.length (by omega) (by omega) W
    clear hsm hcell hK hfirst
    obtain ⟨n1, hn1⟩ : ∃ x, x = (K + 1) % l.length := ⟨_, rfl⟩
    obtain ⟨n2, hn2⟩ : ∃ x, x = (K + l.length - 1) % l.length := ⟨_, rfl⟩
    have hn1l : n1 < l.length := by rw [hn1]; exact Nat.mod_lt _ (by omega)
    have hn2l : n2 < l.length := by rw [hn2]; exact Nat.mod_lt _ (by omega)
    obtain ⟨P1, hP1⟩ : ∃ x : Int, x = (K : Int) + 1 := ⟨_, rfl⟩
    obtain ⟨P2, hP2⟩ : ∃ x : Int, x = (K : Int) + (l.length : Int) := ⟨_, rfl⟩
    obtain ⟨P3, hP3⟩ : ∃ x : Int, x = P2 - 1 := ⟨_, rfl⟩
    have e1 : IntKind.i64.wrap ((K : Int) + 1) = P1 := (IntWalk.i64_in _ (by omega)).trans hP1.symm
    have e2 : IntKind.i64.wrap ((K : Int) + (l.length : Int)) = P2 := (IntWalk.i64_in _ (by omega)).trans hP2.symm
    have e3 : IntKind.i64.wrap (P2 - 1) = P3 := (IntWalk.i64_in _ (by omega)).trans hP3.symm
    have m1 : Int.tmod P1 (l.length : Int) = (n1 : Int) := by
      have : P1 = ((K + 1 : Nat) : Int) := by omega
      rw [this, hn1]; rfl
    have m1' : P1 % (l.length : Int) = (n1 : Int) := by
      have : P1 = ((K + 1 : Nat) : Int) := by omega
      rw [this, hn1]; rfl
    have m3 : Int.tmod P3 (l.length : Int) = (n2 : Int) := by
      have : P3 = ((K + l.length - 1 : Nat) : Int) := by omega
      rw [this, hn2]; rfl
    have m3' : P3 % (l.length : Int) = (n2 : Int) := by
      have : P3 = ((K + l.length - 1 : Nat) : Int) := by omega
      rw [this, hn2]; rfl
    have z0 : ((l.length : Int) == 0) = false := by rw [beq_eq_false_iff_ne]; omega
    obtain ⟨A, hA⟩ : ∃ A, A = nth l n1 := ⟨_, rfl⟩
    obtain ⟨D, hD⟩ : ∃ D, D = nth l n2 := ⟨_, rfl⟩
    have HAI : Hid (∀ i, canI l i = if A ≤ D then (K + i) % l.length else (K + l.length - i) % l.length) := fun i => by
      unfold canI
      rw [← HK.out, ← hn1, ← hn2, ← hA, ← hD]
    have HCA := Lib.hid (show nth l n1 = A from hA.symm)
    have HCD := Lib.hid (show nth l n2 = D from hD.symm)
    clear hn1 hn2 hA hD hP1 hP2 hP3
    have hx0 : ∀ X : Since w, X.val.cell? ⟨b, off + n1, none⟩ = some (.int .i64 A) := fun X => by rw [X.prop.cell (p := ⟨b, off + n1, none⟩) hb, HC.out n1 hn1l, HCA.out]
    have hx1 : ∀ X : Since w, X.val.cell? ⟨b, off + n2, none⟩ = some (.int .i64 D) := fun X => by rw [X.prop.cell (p := ⟨b, off + n2, none⟩) hb, HC.out n2 hn2l, HCD.out]
    have HX0 := Lib.hid hx0
    have HX1 := Lib.hid hx1
    clear hx0 hx1
    go_enter Try.func18, Try.ntmps18
    go_wp2_with fail
    refine (slicesMin _ l _ HL.out (by omega)).mono ?_
    rintro e w1 ⟨rfl, rfl⟩
    rw [← HK.out]
    go_wp2_with fail
    refine (index_at _ l (nth l K) K _ HL.out hkl rfl HFI.out).mono ?_
    rintro e w2 ⟨rfl, rfl⟩
    have hx0 := HX0.out
    go_wp2
    refine wp_region_since (by kernel_rfl) (by kernel_rfl) ?_
    repeat (go_big_quiet_step (fail))
    refine wpQuiet_nil ?_
    intro X0
    have HB2 := Lib.hid X0.prop
    obtain ⟨wx, hwx⟩ : ∃ wx, wx = X0.val := ⟨_, rfl⟩
    rw [← hwx] at HB2 ⊢
    clear hwx hx0 d0 d1 d2
    have hx0 : ∀ X : Since wx, X.val.cell? ⟨b, off + n1, none⟩ = some (.int .i64 A) := fun X => HX0.out ⟨X.val, HB2.out.trans (X.prop.mono HB2.out.size)⟩
    have hx1 : ∀ X : Since wx, X.val.cell? ⟨b, off + n2, none⟩ = some (.int .i64 D) := fun X => HX1.out ⟨X.val, HB2.out.trans (X.prop.mono HB2.out.size)⟩
    go_wp2
    refine wp_region_since (by kernel_rfl) (by kernel_rfl) ?_
    clear e1 e2 e3 m1 m1' m3 m3'
    by_cases hDA : D < A
    · have q0 : decide (D < A) = true := decide_eq_true hDA
      repeat (go_big_quiet_step (fail))
      refine wpQuiet_nil ?_
      intro X
      have HCI : Hid (∀ i, i < l.length → canI l i = (K + i * (l.length - 1)) % l.length) := fun i hi => by
        rw [HAI.out, if_neg (by omega), mod_back K i l.length (by omega) hi]
      obtain ⟨s1, hs1⟩ : ∃ x : Int, x = (l.length : Int) - 1 := ⟨_, rfl⟩
      have es : IntKind.i64.wrap ((l.length : Int) - 1) = s1 := (IntWalk.i64_in _ (by omega)).trans hs1.symm
      have HS1 := Lib.hid hs1
      clear hs1
      clear hDA
      obtain ⟨wy, hwy⟩ : ∃ wy, wy = X.val := ⟨_, rfl⟩
      have HB3 := Lib.hid (HB2.out.trans (X.prop.mono HB2.out.size))
      rw [← hwy] at HB3 ⊢
      clear hwy hx0 hx1
      have hrow := World.rowIs_made wy (.int .i64 0) l.length 3
      have HOF : Hid (OwnI w.heap.size (wy.alloc (.cells (madeCells #[.int .i64 0] l.length) 3)) (.slice (some ⟨wy.heap.size, 0, none⟩) l.length l.length) (fillC l 0)) := by
        have h2 := fillC_length l 0
        have h3 : (wy.alloc (.cells (madeCells #[.int .i64 0] (fillC l 0).length) 3)).rowIs wy.heap.size 3 (fillC l 0).length (fun _ => .int .i64 0) := by rw [h2]; exact hrow
        have h4 := OwnI.of_row (B := w.heap.size) (l := fillC l 0) h3 (fun i hi => by rw [h2] at hi; rw [fillC_nth _ _ _ hi, if_neg (by omega)]) HB3.out.size (fillC_in HL.out.1 0) (by rw [h2]; unfold maxLen; omega)
        rw [h2] at h4
        exact h4
      have HBA := Lib.hid (HB3.out.alloc HB3.out.size (.cells (madeCells #[.int .i64 0] l.length) 3))
      have HZG := Lib.hid HB3.out.size
      clear hrow
      go_wp2
      clear hmk
      go_loopw [49] (fun c wr => ∃ i : Nat, i ≤ l.length ∧ c = .int .i64 i ∧ Hid (OwnI w.heap.size wr (.slice (some ⟨wy.heap.size, 0, none⟩) l.length l.length) (fillC l i)) ∧ Below w.heap.size w wr) (fun c _ => l.length - (intOf c).toNat)
      case atStart => exact ⟨0, by omega, rfl, HOF.out, HBA.out⟩
      case round =>
        clear HOF HBA
        obtain ⟨i, hi9, rfl, HO, hbel⟩ := hrel
        have HBL := Lib.hid hbel
        clear hbel
        by_cases hlt : i < l.length
        · obtain ⟨p, hp⟩ : ∃ p, p = (K + i * (l.length - 1)) % l.length := ⟨_, rfl⟩
          have hpl : p < l.length := by rw [hp]; exact Nat.mod_lt _ (by omega)
          have HPI := Lib.hid (show canI l i = p by rw [HCI.out i hlt, hp])
          obtain ⟨Z1, hZ1⟩ : ∃ x : Nat, x = i * (l.length - 1) := ⟨_, rfl⟩
          have hZb : Z1 ≤ 400 := by
            rw [hZ1]
            exact Nat.le_trans (Nat.mul_le_mul (show i ≤ 20 by omega) (show l.length - 1 ≤ 20 by omega)) (by omega)
          have e3z : (i : Int) * s1 = (Z1 : Int) := by
            rw [HS1.out, hZ1]
            have : ((l.length - 1 : Nat) : Int) = (l.length : Int) - 1 := by omega
            rw [← this]; push_cast; rfl
          have e3y : IntKind.i64.wrap (Z1 : Int) = (Z1 : Int) := IntWalk.i64_in _ (by omega)
          obtain ⟨Q1, hQ1⟩ : ∃ x : Int, x = ((K + Z1 : Nat) : Int) := ⟨_, rfl⟩
          have e4 : IntKind.i64.wrap ((K : Int) + (Z1 : Int)) = Q1 := (IntWalk.i64_in _ (by omega)).trans (by omega)
          have m4 : Int.tmod Q1 (l.length : Int) = (p : Int) := by rw [hQ1, hp, hZ1]; rfl
          have m4' : Q1 % (l.length : Int) = (p : Int) := by rw [hQ1, hp, hZ1]; rfl
          clear hQ1 hZ1
          obtain ⟨y, hy⟩ : ∃ y, y = nth l p := ⟨_, rfl⟩
          have e5 := (HBL.out.cell (p := ⟨b, off + p, none⟩) hb).trans (HC.out p hpl)
          rw [← hy] at e5
          have hyb := nth_in HL.out.1 p
          rw [← hy] at hyb
          obtain ⟨-, hn9⟩ | ⟨g', cp', hs9, -, hgl', -, hmx', hcl9, hfz⟩ := HO.out.form
          · have h9 := fillC_length l i
            rw [hn9, List.length_nil] at h9
            omega
          rw [fillC_length] at hs9
          simp only [Value.slice.injEq, Option.some.injEq, Addr.mk.injEq, and_true, true_and] at hs9
          obtain ⟨rfl, rfl⟩ := hs9
          have f5 := hfz i
          have e6 := hcl9 i (by rw [fillC_length]; exact hlt)
          have HS : Hid (OwnI w.heap.size (wr.setCell ⟨wy.heap.size, i, none⟩ (.int .i64 y)) (.slice (some ⟨wy.heap.size, 0, none⟩) l.length l.length) (fillC l (i + 1))) := by
            have key : ∀ F : List Int, F.length = l.length → OwnI w.heap.size wr (.slice (some ⟨wy.heap.size, 0, none⟩) l.length l.length) F → OwnI w.heap.size (wr.setCell ⟨wy.heap.size, i, none⟩ (.int .i64 y)) (.slice (some ⟨wy.heap.size, 0, none⟩) l.length l.length) (F.set i y) := fun F hF h => by
              have h9 := h
              rw [← hF] at h9
              have := (h9.set i y hyb.1 hyb.2).1
              rw [hF] at this
              exact this
            have h3 := key _ (fillC_length l i) HO.out
            rw [hy, ← HPI.out, fillC_set l i hlt] at h3
            rw [hy, ← HPI.out]
            exact h3
          have HBS : Hid (Below w.heap.size w (wr.setCell ⟨wy.heap.size, i, none⟩ (.int .i64 y))) := HBL.out.setCell (by show w.heap.size ≤ wy.heap.size; exact HZG.out) _
          clear hcl9 hfz hp hy
          go_wp2
          go_roundw
          case rel => exact ⟨i + 1, by omega, by go_num, HS.out, HBS.out⟩
          case measure => simp [intOf]; omega
        · obtain rfl : i = l.length := by omega
          have HOE := Lib.hid (show OwnI w.heap.size wr (.slice (some ⟨wy.heap.size, 0, none⟩) l.length l.length) R by rw [HN.out, ← fillC_all]; exact HO.out)
          go_wp2
          go_ret
          exact ⟨_, rfl, HOE.out, HBL.out⟩
    · have q0 : decide (D < A) = false := decide_eq_false hDA
      repeat (go_big_quiet_step (fail))
      refine wpQuiet_nil ?_
      intro X
      have HCI : Hid (∀ i, i < l.length → canI l i = (K + i * 1) % l.length) := fun i hi => by
        rw [HAI.out, if_pos (by omega), Nat.mul_one]
      clear hDA
      obtain ⟨wy, hwy⟩ : ∃ wy, wy = X.val := ⟨_, rfl⟩
      have HB3 := Lib.hid (HB2.out.trans (X.prop.mono HB2.out.size))
      rw [← hwy] at HB3 ⊢
      clear hwy hx0 hx1
      have hrow := World.rowIs_made wy (.int .i64 0) l.length 3
      have HOF : Hid (OwnI w.heap.size (wy.alloc (.cells (madeCells #[.int .i64 0] l.length) 3)) (.slice (some ⟨wy.heap.size, 0, none⟩) l.length l.length) (fillC l 0)) := by
        have h2 := fillC_length l 0
        have h3 : (wy.alloc (.cells (madeCells #[.int .i64 0] (fillC l 0).length) 3)).rowIs wy.heap.size 3 (fillC l 0).length (fun _ => .int .i64 0) := by rw [h2]; exact hrow
        have h4 := OwnI.of_row (B := w.heap.size) (l := fillC l 0) h3 (fun i hi => by rw [h2] at hi; rw [fillC_nth _ _ _ hi, if_neg (by omega)]) HB3.out.size (fillC_in HL.out.1 0) (by rw [h2]; unfold maxLen; omega)
        rw [h2] at h4
        exact h4
      have HBA := Lib.hid (HB3.out.alloc HB3.out.size (.cells (madeCells #[.int .i64 0] l.length) 3))
      have HZG := Lib.hid HB3.out.size
      clear hrow
      go_wp2
      clear hmk
      go_loopw [49] (fun c wr => ∃ i : Nat, i ≤ l.length ∧ c = .int .i64 i ∧ Hid (OwnI w.heap.size wr (.slice (some ⟨wy.heap.size, 0, none⟩) l.length l.length) (fillC l i)) ∧ Below w.heap.size w wr) (fun c _ => l.length - (intOf c).toNat)
      case atStart => exact ⟨0, by omega, rfl, HOF.out, HBA.out⟩
      case round =>
        clear HOF HBA
        obtain ⟨i, hi9, rfl, HO, hbel⟩ := hrel
        have HBL := Lib.hid hbel
        clear hbel
        by_cases hlt : i < l.length
        · obtain ⟨p, hp⟩ : ∃ p, p = (K + i * 1) % l.length := ⟨_, rfl⟩
          have hpl : p < l.length := by rw [hp]; exact Nat.mod_lt _ (by omega)
          have HPI := Lib.hid (show canI l i = p by rw [HCI.out i hlt, hp])
          obtain ⟨Q1, hQ1⟩ : ∃ x : Int, x = ((K + i * 1 : Nat) : Int) := ⟨_, rfl⟩
          have e4 : IntKind.i64.wrap ((K : Int) + (i : Int)) = Q1 := (IntWalk.i64_in _ (by omega)).trans (by omega)
          have m4 : Int.tmod Q1 (l.length : Int) = (p : Int) := by rw [hQ1, hp]; rfl
          have m4' : Q1 % (l.length : Int) = (p : Int) := by rw [hQ1, hp]; rfl
          clear hQ1
          obtain ⟨y, hy⟩ : ∃ y, y = nth l p := ⟨_, rfl⟩
          have e5 := (HBL.out.cell (p := ⟨b, off + p, none⟩) hb).trans (HC.out p hpl)
          rw [← hy] at e5
          have hyb := nth_in HL.out.1 p
          rw [← hy] at hyb
          obtain ⟨-, hn9⟩ | ⟨g', cp', hs9, -, hgl', -, hmx', hcl9, hfz⟩ := HO.out.form
          · have h9 := fillC_length l i
            rw [hn9, List.length_nil] at h9
            omega
          rw [fillC_length] at hs9
          simp only [Value.slice.injEq, Option.some.injEq, Addr.mk.injEq, and_true, true_and] at hs9
          obtain ⟨rfl, rfl⟩ := hs9
          have f5 := hfz i
          have e6 := hcl9 i (by rw [fillC_length]; exact hlt)
          have HS : Hid (OwnI w.heap.size (wr.setCell ⟨wy.heap.size, i, none⟩ (.int .i64 y)) (.slice (some ⟨wy.heap.size, 0, none⟩) l.length l.length) (fillC l (i + 1))) := by
            have key : ∀ F : List Int, F.length = l.length → OwnI w.heap.size wr (.slice (some ⟨wy.heap.size, 0, none⟩) l.length l.length) F → OwnI w.heap.size (wr.setCell ⟨wy.heap.size, i, none⟩ (.int .i64 y)) (.slice (some ⟨wy.heap.size, 0, none⟩) l.length l.length) (F.set i y) := fun F hF h => by
              have h9 := h
              rw [← hF] at h9
              have := (h9.set i y hyb.1 hyb.2).1
              rw [hF] at this
              exact this
            have h3 := key _ (fillC_length l i) HO.out
            rw [hy, ← HPI.out, fillC_set l i hlt] at h3
            rw [hy, ← HPI.out]
            exact h3
          have HBS : Hid (Below w.heap.size w (wr.setCell ⟨wy.heap.size, i, none⟩ (.int .i64 y))) := HBL.out.setCell (by show w.heap.size ≤ wy.heap.size; exact HZG.out) _
          clear hcl9 hfz hp hy
          go_wp2
          go_roundw
          case rel => exact ⟨i + 1, by omega, by go_num, HS.out, HBS.out⟩
          case measure => simp [intOf]; omega
        · obtain rfl : i = l.length := by omega
          have HOE := Lib.hid (show OwnI w.heap.size wr (.slice (some ⟨wy.heap.size, 0, none⟩) l.length l.length) R by rw [HN.out, ← fillC_all]; exact HO.out)
          go_wp2
          go_ret
          exact ⟨_, rfl, HOE.out, HBL.out⟩

end Go.Proofs.Yteikiifjiapjaab
