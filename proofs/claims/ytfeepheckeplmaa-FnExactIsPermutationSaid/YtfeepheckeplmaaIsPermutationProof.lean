/- For every list, IsPermutation answers as its specification does and writes into no argument. -/
import Derived.Test.YtfeepheckeplmaaRows
import Derived.Test.YtfeepheckeplmaaSh
import Derived.Test.YtfeepheckeplmaaM6
import Derived.Test.YtfeepheckeplmaaGl
import Derived.WalkKit
import Derived.Lib.LaidTab
import Derived.ProofKit
import Derived.LaidMore
import Derived.OpenShut
import Derived.ShutString
import Derived.ChangeOld
import Derived.Below
import Derived.Stop.Joined
import Derived.Stop.LaidErr
namespace Go.Proofs.Ytfeepheckeplmaa.fnExactIsPermutation
open Go.ChangeShapes Go.WideShapes Go.ChangeAt Go.RowKit
open Go.ChangeMaps (open_string shut_string)
set_option linter.unusedVariables false

theorem own : ownKnob Try.prog.godebug = none := by kernel_rfl

theorem laidOut : laidOutB Try.prog = true := by kernel_rfl

set_option maxHeartbeats 4000000 in
set_option maxRecDepth 100000 in
theorem core (v0 : Value) (l0 : List Int) (w : World) (w0 : Ints w v0 l0) (r0 : Bool) (hs0 : (l0.length : Int) ≤ 1048576)
    (hs : ∀ (W : World) (u0 : Value), Ints W u0 l0 → (u0 = .slice none 0 0 ∨ ∃ ad cap, u0 = .slice (some ad) l0.length cap) → Calls Try.prog 40 #[u0] W (fun e W' => e = .returned (.bool r0) ∧ Below W.heap.size W W'))
    (hi : ∀ (W : World) (u0 : Value), Ints W u0 l0 → (u0 = .slice none 0 0 ∨ ∃ ad cap, u0 = .slice (some ad) l0.length cap) → Calls Try.prog 41 #[u0] W (fun e W' => e = .returned (.bool r0) ∧ Below W.heap.size W W')) :
    Calls Try.prog 13 #[v0] w fun e w' => e = .returned (.bool true) ∧ Below w.heap.size w w' := by
  obtain ⟨a0, cap0, rfl, -, hm0⟩ := w0.form
  have HX0 := Lib.hid w0
  unfold maxLen at hm0
  have HS := Lib.hid hs
  have HI := Lib.hid hi
  clear hs hi w0 
  have hne0 : (r0 != r0) = false := by simp
  have hp0 : (0 : Int) ≤ 1048576 - l0.length := by omega
  have hl90 : l0.length ≤ 100000000 := by omega
  have hl60 : l0.length ≤ 1048576 := by omega
  have hd0 : decide (1048576 < (l0.length : Int)) = false := by simp; omega
  have F0 := Lib.hid (Below.refl w.heap.size w)
  go_enter Try.func13, Try.ntmps13
  go_wp2_with fail
  refine (toIntS_any _ l0 _ (HX0.out.on F0.out) hl60).mono ?_
  rintro e w1 ⟨s0, rfl, ho, hb⟩
  have F1 := Lib.hid (F0.out.trans (hb.mono F0.out.size))
  have hz0 : w.heap.size ≤ w1.heap.size := hb.size
  have OT01 := Lib.hid ho
  clear F0 hb ho
  go_wp2_with fail
  refine (HS.out _ _ OT01.out.ints OT01.out.nilform).mono ?_
  rintro e w2 ⟨rfl, hb⟩
  have OT02 := Lib.hid (OT01.out.keep (below_grown hb) (by simp))
  have F2 := Lib.hid (F1.out.trans (hb.mono F1.out.size))
  have hz1 : w1.heap.size ≤ w2.heap.size := hb.size
  clear OT01 F1 hb
  go_wp2_with fail
  refine (toIntS_any _ l0 _ (HX0.out.on F2.out) hl60).mono ?_
  rintro e w3 ⟨vx0, rfl, ho, hb⟩
  have F3 := Lib.hid (F2.out.trans (hb.mono F2.out.size))
  have hz2 : w2.heap.size ≤ w3.heap.size := hb.size
  have X0L := Lib.hid ho.lt
  have OX03 := Lib.hid ho
  clear F2 hb ho
  go_wp2_with fail
  refine (HI.out _ _ OX03.out.ints OX03.out.nilform).mono ?_
  rintro e w4 ⟨rfl, hb⟩
  have OX04 := Lib.hid (OX03.out.keep (below_grown hb) (by simp))
  have F4 := Lib.hid (F3.out.trans (hb.mono F3.out.size))
  have hz3 : w3.heap.size ≤ w4.heap.size := hb.size
  clear OX03 F3 hb
  go_wp2_with fail
  refine (toIntS_any _ l0 _ (HX0.out.on F4.out) hl60).mono ?_
  rintro e w5 ⟨vy0, rfl, ho, hb⟩
  have OX05 := Lib.hid (OX04.out.keep (below_grown hb) (by simp))
  have F5 := Lib.hid (F4.out.trans (hb.mono F4.out.size))
  have hz4 : w4.heap.size ≤ w5.heap.size := hb.size
  have OT05 := Lib.hid ho
  clear OX04 F4 hb ho
  go_wp2_with fail
  refine (eqIntS_same _ _ l0 _ OX05.out.ints OT05.out.ints hl90).mono ?_
  rintro e w6 ⟨rfl, hb⟩
  have OX06 := Lib.hid (OX05.out.keep (below_grown hb) (by simp))
  have OT06 := Lib.hid (OT05.out.keep (below_grown hb) (by simp))
  have F6 := Lib.hid (F5.out.trans (hb.mono F5.out.size))
  have hz5 : w5.heap.size ≤ w6.heap.size := hb.size
  clear OX05 OT05 F5 hb
  go_wp2
  go_ret
  exact ⟨rfl, F6.out⟩

set_option maxHeartbeats 1000000 in
theorem walk (v0 : Value) (l0 : List Int) (w : World) (w0 : Ints w v0 l0) : Calls Try.prog 13 #[v0] w fun e w' => e = .returned (.bool true) ∧ Below w.heap.size w w' := by
  by_cases hb0 : 1048576 < (l0.length : Int)
  · obtain ⟨a, cap, rfl, -, hm⟩ := w0.form
    clear w0
    have hd : decide (1048576 < (l0.length : Int)) = true := by simp [hb0]
    go_enter Try.func13, Try.ntmps13
    go_wp2
    go_ret
    exact ⟨rfl, Below.refl _ _⟩
  exact core v0 l0 w w0 (decide (PermP l0)) (by omega)
    (fun W u0 h0 _ => (specPerm _ l0 W h0 (by omega)).mono fun _ _ h => h.dec)
    (fun W u0 h0 _ => (implPerm _ l0 W h0 (by omega)).mono fun _ _ h => h.dec)

set_option maxRecDepth 100000 in
theorem lifted (os : Os) (started : os.Started) (H : Type) (enc : TypeId × Value → H) :
    ReturnsInHanded {} Try.checked os 13 .any (Rows.fnExactIsPermutationSpec.pre6 enc Try.prog Try.f13 Rows.fnExactIsPermutationRow.domain false) (Rows.fnExactIsPermutationSpec.post enc Try.prog Try.f13 false true false false) := by
  refine returnsInHanded_of_change (C := Try.checked) own started (by kernel_rfl) Try.func13
    (ChangeSpec.witness6 (enc := enc) (C := Try.checked) false ⟨#[], #[.slice none 0 0], []⟩ 8 (by kernel_rfl) (by kernel_rfl) (by kernel_rfl) (by kernel_rfl)) ?_
  intro W base args ds gs before hval0 hW hcnd _
  have hval : ∀ (j : Nat) t v, Try.f13.params[j]? = some t → args[j]? = some v → Value.okWide Try.prog W .any base t v := hval0
  have hW' := hW
  obtain ⟨p, q, hA0, hV, rfl, hfz, hnd⟩ := hW
  have hA : DataW.TrodAll enc Try.prog W 0 (fun _ => true) true Try.f13.params.toList args.toList ds p := hA0
  rw [Try.params13] at hA hval
  obtain ⟨v0, vs0, d0, ds0, p0, q0, hargs, rfl, rfl, h0, r0⟩ := trodAll_cons hA
  obtain ⟨rfl, rfl, rfl⟩ := trodAll_nil r0
  obtain rfl : args = #[v0] := by cases args; simp_all
  obtain ⟨rfl, rfl⟩ := trodVars_none hV
  have k0 := h0
  obtain ⟨l0, w0⟩ := open_ints_arg Try.underlying22 Try.underlying3 (by kernel_rfl) (hval 0 22 v0 rfl rfl) h0
  clear hA0 hval0
  refine (walk v0 l0 W w0).mono fun e W' ⟨he, bel⟩ => ?_
  subst he
  exact ⟨_, rfl, _, _, _, [], _, [], hW', (trodAll_cons_mk (shut_bool Try.underlying4 _) trodAll_mk0), (trodAll_cons_mk (Below.trod laidOut (by kernel_rfl) (of_decide_eq_true (by kernel_rfl)) k0 bel (lt_of_trod k0)) trodAll_mk0), rfl, bel.frame _, fun h => by cases h⟩

theorem proved : Rows.FnExactIsPermutationSaid :=
  OpenClaim.holds_of_wide 13 Try.f13 rfl rfl rfl rfl rfl rfl rfl ⟨rfl, rfl, rfl, rfl, rfl⟩ rfl rfl rfl rfl rfl (by kernel_rfl) Try.func13 (by kernel_rfl)
    (of_decide_eq_true (by kernel_rfl)) (by unfold Func.isWrapper; first | (rw [if_pos (by decide +kernel)]; kernel_rfl) | (rw [if_neg (by decide +kernel)]; exact ⟨rfl, rfl⟩))
    (fun os started H enc _ => lifted os started H enc)
#print axioms proved
end Go.Proofs.Ytfeepheckeplmaa.fnExactIsPermutation
