/- SetOf answers as the specification, at every list. -/
import Derived.Test.YtkadihfbbmhebabRows
import Derived.Test.YtkadihfbbmhebabSh
import Derived.Test.YtkadihfbbmhebabH2
import Derived.WalkKit
import Derived.Lib.LaidTab
import Derived.ProofKit
import Derived.LaidMore
import Derived.OpenShut
import Derived.ShutString
import Derived.ChangeOld
import Derived.Below
import Derived.Stop.Joined
import Derived.Stop.LaidErr
namespace Go.Proofs.Ytkadihfbbmhebab.fnExactSetOf
open Go.ChangeShapes Go.WideShapes Go.ChangeAt Go.RowKit
open Go.ChangeMaps (open_string shut_string)
set_option linter.unusedVariables false

theorem own : ownKnob Try.prog.godebug = none := by kernel_rfl

theorem laidOut : laidOutB Try.prog = true := by kernel_rfl

set_option maxHeartbeats 2000000 in
set_option maxRecDepth 100000 in
theorem walk (v0 : Value) (l0 : List Int) (w : World) (w0 : Ints w v0 l0) : Calls Try.prog 5 #[v0] w fun e w' => e = .returned (.bool true) ∧ Below w.heap.size w w' := by
  obtain ⟨a, cap, rfl, -, hm⟩ := w0.form
  have HX := Lib.hid w0
  clear w0
  unfold maxLen at hm
  by_cases hbig : 1048576 < (l0.length : Int)
  · have hd : decide (1048576 < (l0.length : Int)) = true := by simp [hbig]
    go_enter Try.func5, Try.ntmps5
    go_wp2
    go_ret
    exact ⟨rfl, Below.refl _ _⟩
  · have hd : decide (1048576 < (l0.length : Int)) = false := by simp; omega
    have hl6 : l0.length ≤ 1048576 := by omega
    have hl9 : l0.length ≤ 100000000 := by omega
    obtain ⟨R, hR⟩ : ∃ R, R = outI (setOf l0 0) := ⟨_, rfl⟩
    obtain ⟨b, hb0⟩ : ∃ b, b = outB (setOf l0 0) := ⟨_, rfl⟩
    have h1 := fun v W (h : Ints W v l0) => specSetOf v l0 W h hl9
    have h2 := fun v W (h : Ints W v l0) => implSetOf v l0 W h hl9
    rw [← hR, ← hb0] at h1 h2
    have H1 := Lib.hid h1
    have H2 := Lib.hid h2
    clear h1 h2 hR hb0
    have q1 : (R != R) = false := by simp
    have q2 : (b != b) = false := by simp
    go_enter Try.func5, Try.ntmps5
    go_wp2_with fail
    refine (toIntS_any _ l0 _ HX.out hl6).mono ?_
    rintro e w1 ⟨v1, rfl, ho, hb⟩
    have F1 := Lib.hid hb
    have HO := Lib.hid ho
    clear ho hb
    go_wp2_with fail
    refine (H1.out _ _ HO.out.ints).mono ?_
    rintro e w2 ⟨rfl, hb⟩
    have F2 := Lib.hid (btrans F1.out hb)
    clear hb
    go_wp2_with fail
    refine (toIntS_any _ l0 _ (HX.out.on F2.out) hl6).mono ?_
    rintro e w3 ⟨v3, rfl, ho, hb⟩
    have F3 := Lib.hid (btrans F2.out hb)
    have HO3 := Lib.hid ho
    clear ho hb
    go_wp2_with fail
    refine (H2.out _ _ HO3.out.ints).mono ?_
    rintro e w4 ⟨rfl, hb⟩
    have F4 := Lib.hid (btrans F3.out hb)
    have HO4 := Lib.hid (HO3.out.on hb)
    clear hb
    go_wp2_with fail
    refine (toIntS_any _ l0 _ (HX.out.on F4.out) hl6).mono ?_
    rintro e w5 ⟨v5, rfl, ho, hb⟩
    have F5 := Lib.hid (btrans F4.out hb)
    have HO5 := Lib.hid ho
    have HO6 := Lib.hid (HO4.out.on hb)
    clear ho hb
    go_wp2_with fail
    refine (eqIntS_same _ _ l0 _ HO6.out.ints HO5.out.ints hl9).mono ?_
    rintro e w6 ⟨rfl, hb⟩
    have F6 := Lib.hid (btrans F5.out hb)
    clear hb
    go_wp2
    go_ret
    exact ⟨rfl, F6.out⟩

set_option maxRecDepth 100000 in
theorem lifted (os : Os) (started : os.Started) (H : Type) (enc : TypeId × Value → H) :
    ReturnsInHanded {} Try.checked os 5 .any (Rows.fnExactSetOfSpec.pre6 enc Try.prog Try.f5 Rows.fnExactSetOfRow.domain false) (Rows.fnExactSetOfSpec.post enc Try.prog Try.f5 false true false false) := by
  refine returnsInHanded_of_change (C := Try.checked) own started (by kernel_rfl) Try.func5
    (ChangeSpec.witness6 (enc := enc) (C := Try.checked) false ⟨#[], #[.slice none 0 0], []⟩ 8 (by kernel_rfl) (by kernel_rfl) (by kernel_rfl) (by kernel_rfl)) ?_
  intro W base args ds gs before hval0 hW hcnd _
  have hval : ∀ (j : Nat) t v, Try.f5.params[j]? = some t → args[j]? = some v → Value.okWide Try.prog W .any base t v := hval0
  have hW' := hW
  obtain ⟨p, q, hA0, hV, rfl, hfz, hnd⟩ := hW
  have hA : DataW.TrodAll enc Try.prog W 0 (fun _ => true) true Try.f5.params.toList args.toList ds p := hA0
  rw [Try.params5] at hA hval
  obtain ⟨v0, vs0, d0, ds0, p0, q0, hargs, rfl, rfl, h0, r0⟩ := trodAll_cons hA
  obtain ⟨rfl, rfl, rfl⟩ := trodAll_nil r0
  obtain rfl : args = #[v0] := by cases args; simp_all
  obtain ⟨rfl, rfl⟩ := trodVars_none hV
  have k0 := h0
  obtain ⟨l0, w0⟩ := open_ints_arg Try.underlying22 Try.underlying3 (by kernel_rfl) (hval 0 22 v0 rfl rfl) h0
  clear hA0 hval0
  refine (walk v0 l0 W w0).mono fun e W' ⟨he, bel⟩ => ?_
  subst he
  exact ⟨_, rfl, _, _, _, [], _, [], hW', (trodAll_cons_mk (shut_bool Try.underlying4 _) trodAll_mk0), (trodAll_cons_mk (Below.trod laidOut (by kernel_rfl) (of_decide_eq_true (by kernel_rfl)) k0 bel (lt_of_trod k0)) trodAll_mk0), rfl, bel.frame _, fun h => by cases h⟩

theorem proved : Rows.FnExactSetOfSaid :=
  OpenClaim.holds_of_wide 5 Try.f5 rfl rfl rfl rfl rfl rfl rfl ⟨rfl, rfl, rfl, rfl, rfl⟩ rfl rfl rfl rfl rfl (by kernel_rfl) Try.func5 (by kernel_rfl)
    (of_decide_eq_true (by kernel_rfl)) (by unfold Func.isWrapper; first | (rw [if_pos (by decide +kernel)]; kernel_rfl) | (rw [if_neg (by decide +kernel)]; exact ⟨rfl, rfl⟩))
    (fun os started H enc _ => lifted os started H enc)
#print axioms proved
end Go.Proofs.Ytkadihfbbmhebab.fnExactSetOf
