/- For every number, ListOf answers as its specification does and its answer owns its memory. -/
import Derived.Test.YtkadihfbbmhebabRows
import Derived.Test.YtkadihfbbmhebabSh
import Derived.Test.YtkadihfbbmhebabV6
import Derived.Test.YtkadihfbbmhebabGl
import Derived.WalkKit
import Derived.Lib.LaidTab
import Derived.ProofKit
import Derived.LaidMore
import Derived.OpenShut
import Derived.ShutString
import Derived.ChangeOld
import Derived.Below
import Derived.Stop.Joined
import Derived.Stop.LaidErr
namespace Go.Proofs.Ytkadihfbbmhebab.fnExactListOf
open Go.ChangeShapes Go.WideShapes Go.ChangeAt Go.RowKit
open Go.ChangeMaps (open_string shut_string)
set_option linter.unusedVariables false

theorem own : ownKnob Try.prog.godebug = none := by kernel_rfl

set_option maxHeartbeats 4000000 in
set_option maxRecDepth 100000 in
theorem core (a0 : Int) (w : World) (w0 : (Lit.int .i64 a0).wf = true) (l' : List Int) (hl' : l'.length ≤ 1048576)
    (hs : ∀ (W : World), Calls Try.prog 17 #[.int .i64 a0] W (fun e W' => ∃ vr, e = .returned (vr) ∧ OwnI W.heap.size W' vr l' ∧ Below W.heap.size W W'))
    (hi : ∀ (W : World), Calls Try.prog 18 #[.int .i64 a0] W (fun e W' => ∃ vr, e = .returned (vr) ∧ OwnI W.heap.size W' vr l' ∧ Below W.heap.size W W')) :
    Calls Try.prog 4 #[.int .i64 a0] w fun e w' => e = .returned (.bool true) ∧ Below w.heap.size w w' := by
  have HS := Lib.hid hs
  have HI := Lib.hid hi
  clear hs hi  w0
  have hl9' : l'.length ≤ 100000000 := by omega
  have F0 := Lib.hid (Below.refl w.heap.size w)
  go_enter Try.func4, Try.ntmps4
  go_wp2_with fail
  refine (HS.out _  ).mono ?_
  rintro e w1 ⟨vw, rfl, ho, hb⟩
  have F1 := Lib.hid (F0.out.trans (hb.mono F0.out.size))
  have hz0 : w.heap.size ≤ w1.heap.size := hb.size
  have WL := Lib.hid ho.lt
  have OW1 := Lib.hid ho
  clear F0 hb ho
  go_wp2_with fail
  refine (HI.out _  ).mono ?_
  rintro e w2 ⟨vg, rfl, ho, hb⟩
  have OW2 := Lib.hid (OW1.out.keep (below_grown hb) (by simp))
  have F2 := Lib.hid (F1.out.trans (hb.mono F1.out.size))
  have hz1 : w1.heap.size ≤ w2.heap.size := hb.size
  have GL := Lib.hid ho.lt
  have OG2 := Lib.hid ho
  clear OW1 F1 hb ho
  go_wp2_with fail
  refine (eqIntS_same _ _ l' _ OG2.out.ints OW2.out.ints hl9').mono ?_
  rintro e w3 ⟨rfl, hb⟩
  have OW3 := Lib.hid (OW2.out.keep (below_grown hb) (by simp))
  have OG3 := Lib.hid (OG2.out.keep (below_grown hb) (by simp))
  have F3 := Lib.hid (F2.out.trans (hb.mono F2.out.size))
  have hz2 : w2.heap.size ≤ w3.heap.size := hb.size
  clear OW2 OG2 F2 hb
  go_wp2_with fail
  refine (markIntS_any _ _ l' 1 _ OG3.out hl9' (by omega) (by omega)).mono ?_
  rintro e w4 ⟨rfl, ho, hg⟩
  have OW4 := Lib.hid (OW3.out.keep hg (fun k hk j hj => by have := GL.out _ hk; have := WL.out _ hj; omega))
  have F4 := Lib.hid (F3.out.grown hg F3.out.size (fun k hk => by have := (GL.out _ hk).1; omega))
  have OG4 := Lib.hid ho
  have hz3 : w3.heap.size ≤ w4.heap.size := hg.size
  clear OW3 OG3 F3 hg ho
  go_wp2_with fail
  refine (heldIntS_any _ 1 l'.length _ OG4.out.ints hl9' (by omega) (by omega)).mono ?_
  rintro e w5 ⟨rfl, hb⟩
  replace hb := eq_below hb
  have OW5 := Lib.hid (OW4.out.keep (below_grown hb) (by simp))
  have OG5 := Lib.hid (OG4.out.keep (below_grown hb) (by simp))
  have F5 := Lib.hid (F4.out.trans (hb.mono F4.out.size))
  have hz4 : w4.heap.size ≤ w5.heap.size := hb.size
  clear OW4 OG4 F4 hb
  have hk' : decide ((1 : Int) + l'.length < 0) = false := by simp; omega
  have hq : ((1 : Int) + l'.length != 1 + l'.length) = false := by simp
  go_wp2_with fail
  refine (HI.out _  ).mono ?_
  rintro e w6 ⟨vh, rfl, ho, hb⟩
  have OW6 := Lib.hid (OW5.out.keep (below_grown hb) (by simp))
  have OG6 := Lib.hid (OG5.out.keep (below_grown hb) (by simp))
  have F6 := Lib.hid (F5.out.trans (hb.mono F5.out.size))
  have hz5 : w5.heap.size ≤ w6.heap.size := hb.size
  have HL := Lib.hid ho.lt
  have OH6 := Lib.hid ho
  clear OW5 OG5 F5 hb ho
  go_wp2_with fail
  refine (eqIntS_same _ _ l' _ OH6.out.ints OW6.out.ints hl9').mono ?_
  rintro e w7 ⟨rfl, hb⟩
  have OW7 := Lib.hid (OW6.out.keep (below_grown hb) (by simp))
  have OG7 := Lib.hid (OG6.out.keep (below_grown hb) (by simp))
  have OH7 := Lib.hid (OH6.out.keep (below_grown hb) (by simp))
  have F7 := Lib.hid (F6.out.trans (hb.mono F6.out.size))
  have hz6 : w6.heap.size ≤ w7.heap.size := hb.size
  clear OW6 OG6 OH6 F6 hb
  go_wp2_with fail
  refine (heldIntS_any _ 1 l'.length _ OG7.out.ints hl9' (by omega) (by omega)).mono ?_
  rintro e w8 ⟨rfl, hb⟩
  replace hb := eq_below hb
  have OW8 := Lib.hid (OW7.out.keep (below_grown hb) (by simp))
  have OG8 := Lib.hid (OG7.out.keep (below_grown hb) (by simp))
  have F8 := Lib.hid (F7.out.trans (hb.mono F7.out.size))
  have hz7 : w7.heap.size ≤ w8.heap.size := hb.size
  clear OW7 OG7 F7 hb
  go_wp2
  go_ret
  exact ⟨rfl, F8.out⟩

set_option maxHeartbeats 1000000 in
theorem walk (a0 : Int) (w : World) (w0 : (Lit.int .i64 a0).wf = true) : Calls Try.prog 4 #[.int .i64 a0] w fun e w' => e = .returned (.bool true) ∧ Below w.heap.size w w' := by
  exact core a0 w w0 (listR a0) (by have := listR_length a0; omega)
    (fun W => specListOf a0 W)
    (fun W => implListOf a0 W)

set_option maxRecDepth 100000 in
theorem lifted (os : Os) (started : os.Started) (H : Type) (enc : TypeId × Value → H) :
    ReturnsInHanded {} Try.checked os 4 .any (Rows.fnExactListOfSpec.pre6 enc Try.prog Try.f4 Rows.fnExactListOfRow.domain false) (Rows.fnExactListOfSpec.post enc Try.prog Try.f4 false true false false) := by
  refine returnsInHanded_of_change (C := Try.checked) own started (by kernel_rfl) Try.func4
    (ChangeSpec.witness6 (enc := enc) (C := Try.checked) false ⟨#[], #[.int .i64 0], []⟩ 8 (by kernel_rfl) (by kernel_rfl) (by kernel_rfl) (by kernel_rfl)) ?_
  intro W base args ds gs before hval0 hW hcnd _
  have hval : ∀ (j : Nat) t v, Try.f4.params[j]? = some t → args[j]? = some v → Value.okWide Try.prog W .any base t v := hval0
  have hW' := hW
  obtain ⟨p, q, hA0, hV, rfl, hfz, hnd⟩ := hW
  have hA : DataW.TrodAll enc Try.prog W 0 (fun _ => true) true Try.f4.params.toList args.toList ds p := hA0
  rw [Try.params4] at hA hval
  obtain ⟨v0, vs0, d0, ds0, p0, q0, hargs, rfl, rfl, h0, r0⟩ := trodAll_cons hA
  obtain ⟨rfl, rfl, rfl⟩ := trodAll_nil r0
  obtain rfl : args = #[v0] := by cases args; simp_all
  obtain ⟨rfl, rfl⟩ := trodVars_none hV
  obtain ⟨a0, rfl, rfl, rfl, w0⟩ := open_int Try.underlying3 (hval 0 3 v0 rfl rfl) h0
  clear hA0 hval0
  simp only [List.append_nil] at hW'
  refine (walk a0 W w0).mono fun e W' ⟨he, bel⟩ => ?_
  subst he
  exact ⟨_, rfl, _, _, _, [], [], [], hW', (trodAll_cons_mk (shut_bool Try.underlying4 _) trodAll_mk0), (trodAll_cons_mk (shut_int Try.underlying3 w0) trodAll_mk0), rfl, bel.frame _, fun h => by cases h⟩

theorem proved : Rows.FnExactListOfSaid :=
  OpenClaim.holds_of_wide 4 Try.f4 rfl rfl rfl rfl rfl rfl rfl ⟨rfl, rfl, rfl, rfl, rfl⟩ rfl rfl rfl rfl rfl (by kernel_rfl) Try.func4 (by kernel_rfl)
    (of_decide_eq_true (by kernel_rfl)) (by unfold Func.isWrapper; first | (rw [if_pos (by decide +kernel)]; kernel_rfl) | (rw [if_neg (by decide +kernel)]; exact ⟨rfl, rfl⟩))
    (fun os started H enc _ => lifted os started H enc)
#print axioms proved
end Go.Proofs.Ytkadihfbbmhebab.fnExactListOf
