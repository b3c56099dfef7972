/- IsIndependent answers as the specification, at every graph and every number. -/
import Derived.Test.YtkadihfbbmhebabRows
import Derived.Test.YtkadihfbbmhebabSh
import Derived.Test.YtkadihfbbmhebabV3
import Derived.WalkKit
import Derived.Lib.LaidTab
import Derived.ProofKit
import Derived.LaidMore
import Derived.OpenShut
import Derived.ShutString
import Derived.ChangeOld
import Derived.Below
import Derived.Stop.Joined
import Derived.Stop.LaidErr
namespace Go.Proofs.Ytkadihfbbmhebab.fnExactIsIndependent
open Go.ChangeShapes Go.WideShapes Go.ChangeAt Go.RowKit
open Go.ChangeMaps (open_string shut_string)
set_option linter.unusedVariables false

theorem own : ownKnob Try.prog.godebug = none := by kernel_rfl

theorem laidOut : laidOutB Try.prog = true := by kernel_rfl

set_option maxHeartbeats 2000000 in
set_option maxRecDepth 100000 in
theorem walk (n0 : Int) (v0 : Value) (l0 : List Int) (a1 : Int) (w : World) (w0 : (Lit.int .i64 n0).wf = true) (x0 : Ints w v0 l0) (w1 : (Lit.int .i64 a1).wf = true) : Calls Try.prog 10 #[.agg #[.int .i64 n0, v0], .int .i64 a1] w fun e w' => e = .returned (.bool true) ∧ Below w.heap.size w w' := by
  obtain ⟨a, cap, rfl, hc, hm⟩ := x0.form
  have HA := Lib.hid (fun wr (hb : Below (w.heap.size + 1) (w.alloc (.cells #[.int .i64 n0, .slice a l0.length cap] 24)) wr) => argG x0 hb)
  have HX := Lib.hid x0
  clear x0 w0
  by_cases hbig : 1048576 < (l0.length : Int)
  · go_enter Try.func10, Try.ntmps10
    go_wp2_with fail
    refine (szGraph_over n0 _ l0 _ _ (HX.out.alloc _) hbig (by omega)).mono ?_
    rintro e w1 ⟨rfl, hb⟩
    have HB := Lib.hid hb
    clear hb
    go_wp2
    go_ret
    exact ⟨rfl, ((Below.refl _ w).alloc (Nat.le_refl _) _).trans (HB.out.mono (by simp))⟩
  · go_enter Try.func10, Try.ntmps10
    go_wp2_with fail
    refine (szGraph_fits n0 _ l0 _ _ (HX.out.alloc _) (by omega) (by omega)).mono ?_
    rintro e w1 ⟨rfl, hb⟩
    have HB := Lib.hid (hb.mono (B' := w.heap.size + 1) (by simp))
    have hp : (0 : Int) ≤ 1048576 - l0.length := by omega
    clear hb
    obtain ⟨c0, c1, -, -, hz⟩ := HA.out _ HB.out
    go_wp2_with fail
    refine (toGraph_any n0 _ l0 _ (HA.out _ HB.out).2.2.1 (by omega)).mono ?_
    rintro e w2 ⟨v1, rfl, ho, hb⟩
    have HB2 := Lib.hid (HB.out.trans (hb.mono hz))
    have HO := Lib.hid ho.ints
    clear ho hb c0 c1 hz
    obtain ⟨c0, c1, -, -, hz⟩ := HA.out _ HB2.out
    go_wp2_with fail
    refine (specIndep n0 _ l0 a1 _ HO.out).mono ?_
    rintro e w3 ⟨r, rfl, hr, hb⟩
    have HR := Lib.hid hr
    have HB3 := Lib.hid (HB2.out.trans (hb.mono hz))
    clear hr hb c0 c1 hz
    obtain ⟨c0, c1, -, -, hz⟩ := HA.out _ HB3.out
    go_wp2_with fail
    refine (toGraph_any n0 _ l0 _ (HA.out _ HB3.out).2.2.1 (by omega)).mono ?_
    rintro e w4 ⟨v2, rfl, ho, hb⟩
    have HB4 := Lib.hid (HB3.out.trans (hb.mono hz))
    have HO2 := Lib.hid ho.ints
    obtain ⟨ax, capx, rfl, -, -⟩ := ho.ints.form
    clear ho hb c0 c1 hz HO
    obtain ⟨c0, c1, -, -, hz⟩ := HA.out _ HB4.out
    go_wp2_with fail
    refine (implIndep n0 _ l0 a1 _ (HO2.out.alloc _)).mono ?_
    rintro e w5 ⟨r', rfl, hr, hb⟩
    have HB5 := Lib.hid ((HB4.out.alloc (Nat.succ_le_of_lt hz) (.cells #[.int .i64 n0, .slice ax l0.length capx] 27)).trans (hb.mono (by simp; omega)))
    have HO5 := Lib.hid ((HO2.out.alloc _).on hb)
    have e0 : w5.cell? ⟨w4.heap.size, 0, none⟩ = some (.int .i64 n0) := by rw [hb.cell (p := ⟨w4.heap.size, 0, none⟩) (by simp)]; simp [go_sem]
    have e1 : w5.cell? ⟨w4.heap.size, 1, none⟩ = some (.slice ax l0.length capx) := by rw [hb.cell (p := ⟨w4.heap.size, 1, none⟩) (by simp)]; simp [go_sem]
    have hz5 : w4.heap.size < w5.heap.size := by have := hb.size; simp at this; omega
    obtain rfl : r' = r := by
      have h1 := HR.out
      cases r <;> cases r' <;> simp_all
    clear hr hb c0 c1 hz
    obtain ⟨c0, c1, -, -, hz⟩ := HA.out _ HB5.out
    have hne : (r' != r') = false := by simp
    have hl6 : l0.length ≤ 1000000000 := by omega
    have HS : Hid (∀ W, Below w5.heap.size w5 W → W.cell? ⟨w.heap.size, 0, none⟩ = some (.int .i64 n0) ∧ W.cell? ⟨w.heap.size, 1, none⟩ = some (.slice a l0.length cap) ∧
        W.cell? ⟨w4.heap.size, 0, none⟩ = some (.int .i64 n0) ∧ W.cell? ⟨w4.heap.size, 1, none⟩ = some (.slice ax l0.length capx) ∧ Ints W (.slice a l0.length cap) l0 ∧ Ints W (.slice ax l0.length capx) l0 ∧ Below w5.heap.size w5 W) := fun W hb => by
      obtain ⟨k0, k1, k2, -, -⟩ := HA.out _ (HB5.out.trans (hb.mono hz))
      exact ⟨k0, k1, by rw [hb.cell (p := ⟨w4.heap.size, 0, none⟩) hz5]; exact e0, by rw [hb.cell (p := ⟨w4.heap.size, 1, none⟩) hz5]; exact e1, k2, HO5.out.on hb, hb⟩
    go_wp2
    clear c0 c1 e0 e1
    go_region_held3 (fun w' => w'.cell? ⟨w.heap.size, 0, none⟩ = some (.int .i64 n0) ∧ w'.cell? ⟨w.heap.size, 1, none⟩ = some (.slice a l0.length cap) ∧
        w'.cell? ⟨w4.heap.size, 0, none⟩ = some (.int .i64 n0) ∧ w'.cell? ⟨w4.heap.size, 1, none⟩ = some (.slice ax l0.length capx) ∧ Ints w' (.slice a l0.length cap) l0 ∧ Ints w' (.slice ax l0.length capx) l0 ∧ Below w5.heap.size w5 w')
      (first | exact HS.out _ (Below.refl _ _).drew | exact HS.out _ (Below.refl _ _) | (go_split_ands; exact HS.out _ (btrans (by assumption) hb)))
      (first
        | (go_at_call 14; go_split_ands; (refine (toGraph_any n0 _ l0 _ (by assumption) (by omega)).mono ?_; rintro e w6 ⟨v3, rfl, ho, hb⟩))
        | (go_at_call 16; go_split_ands; refine (eqGraph_same n0 _ _ l0 _ (by assumption) ho.ints (by omega)).mono ?_; rintro e w7 ⟨rfl, hb⟩))
    go_split_ands
    have HE := Lib.hid (show Below w5.heap.size w5 w7 by assumption)
    go_wp2
    go_ret
    exact ⟨rfl, (HA.out _ (HB5.out.trans (HE.out.mono hz))).2.2.2.1⟩

set_option maxRecDepth 100000 in
theorem lifted (os : Os) (started : os.Started) (H : Type) (enc : TypeId × Value → H) :
    ReturnsInHanded {} Try.checked os 10 .any (Rows.fnExactIsIndependentSpec.pre6 enc Try.prog Try.f10 Rows.fnExactIsIndependentRow.domain false) (Rows.fnExactIsIndependentSpec.post enc Try.prog Try.f10 false true false false) := by
  refine returnsInHanded_of_change (C := Try.checked) own started (by kernel_rfl) Try.func10
    (ChangeSpec.witness6 (enc := enc) (C := Try.checked) false ⟨#[], #[.agg #[.int .i64 0, .slice none 0 0], .int .i64 0], []⟩ 8 (by kernel_rfl) (by kernel_rfl) (by kernel_rfl) (by kernel_rfl)) ?_
  intro W base args ds gs before hval0 hW hcnd _
  have hval : ∀ (j : Nat) t v, Try.f10.params[j]? = some t → args[j]? = some v → Value.okWide Try.prog W .any base t v := hval0
  have hW' := hW
  obtain ⟨p, q, hA0, hV, rfl, hfz, hnd⟩ := hW
  have hA : DataW.TrodAll enc Try.prog W 0 (fun _ => true) true Try.f10.params.toList args.toList ds p := hA0
  rw [Try.params10] at hA hval
  obtain ⟨v0, vs0, d0, ds0, p0, q0, hargs, rfl, rfl, h0, r0⟩ := trodAll_cons hA
  obtain ⟨v1, vs1, d1, ds1, p1, q1, rfl, rfl, rfl, h1, r1⟩ := trodAll_cons r0
  obtain ⟨rfl, rfl, rfl⟩ := trodAll_nil r1
  obtain rfl : args = #[v0, v1] := by cases args; simp_all
  obtain ⟨rfl, rfl⟩ := trodVars_none hV
  have k0 := h0
  obtain ⟨n0, u0, l0, rfl, w0, x0⟩ := open_graph Try.underlying24 (by kernel_rfl) (by kernel_rfl) Try.underlying3 Try.underlying22 Try.underlying3 (by kernel_rfl) (hval 0 24 v0 rfl rfl) h0
  obtain ⟨a1, rfl, rfl, rfl, w1⟩ := open_int Try.underlying3 (hval 1 3 v1 rfl rfl) h1
  clear hA0 hval0
  refine (walk n0 u0 l0 a1 W w0 x0 w1).mono fun e W' ⟨he, bel⟩ => ?_
  subst he
  exact ⟨_, rfl, _, _, _, [], _, [], hW', (trodAll_cons_mk (shut_bool Try.underlying4 _) trodAll_mk0), (trodAll_cons_mk (Below.trod laidOut (by kernel_rfl) (of_decide_eq_true (by kernel_rfl)) k0 bel (lt_of_trod k0)) (trodAll_cons_mk (shut_int Try.underlying3 w1) trodAll_mk0)), rfl, bel.frame _, fun h => by cases h⟩

theorem proved : Rows.FnExactIsIndependentSaid :=
  OpenClaim.holds_of_wide 10 Try.f10 rfl rfl rfl rfl rfl rfl rfl ⟨rfl, rfl, rfl, rfl, rfl⟩ rfl rfl rfl rfl rfl (by kernel_rfl) Try.func10 (by kernel_rfl)
    (of_decide_eq_true (by kernel_rfl)) (by unfold Func.isWrapper; first | (rw [if_pos (by decide +kernel)]; kernel_rfl) | (rw [if_neg (by decide +kernel)]; exact ⟨rfl, rfl⟩))
    (fun os started H enc _ => lifted os started H enc)
#print axioms proved
end Go.Proofs.Ytkadihfbbmhebab.fnExactIsIndependent
