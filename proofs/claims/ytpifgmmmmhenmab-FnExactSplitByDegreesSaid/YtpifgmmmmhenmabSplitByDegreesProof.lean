/- At every graph SplitByDegrees answers as its specification and writes into no argument. -/
import Derived.Test.YtpifgmmmmhenmabRows
import Derived.Test.YtpifgmmmmhenmabSh
import Derived.Test.YtpifgmmmmhenmabGl
import Derived.Test.YtpifgmmmmhenmabDj
import Derived.WalkKit
import Derived.Lib.LaidTab
import Derived.ProofKit
import Derived.LaidMore
import Derived.OpenShut
import Derived.ShutString
import Derived.ChangeOld
import Derived.Below
import Derived.Stop.Joined
import Derived.Stop.LaidErr
namespace Go.Proofs.Ytpifgmmmmhenmab.fnExactSplitByDegrees
open Go.ChangeShapes Go.WideShapes Go.ChangeAt Go.RowKit
open Go.ChangeMaps (open_string shut_string)
set_option linter.unusedVariables false

theorem own : ownKnob Try.prog.godebug = none := by kernel_rfl

theorem laidOut : laidOutB Try.prog = true := by kernel_rfl

set_option maxHeartbeats 4000000 in
set_option maxRecDepth 100000 in
theorem core (n0 : Int) (v0 : Value) (l0 : List Int) (w : World) (w0 : (Lit.int .i64 n0).wf = true) (x0 : Ints w v0 l0) (r0 : Bool) (hs0 : (l0.length : Int) ≤ 1048576)
    (hs : ∀ (W : World) (u0 : Value), Ints W u0 l0 → (u0 = .slice none 0 0 ∨ ∃ ad cap, u0 = .slice (some ad) l0.length cap) → Calls Try.prog 18 #[.agg #[.int .i64 n0, u0]] W (fun e W' => e = .returned (.bool r0) ∧ Below W.heap.size W W'))
    (hi : ∀ (W : World) (u0 : Value), Ints W u0 l0 → (u0 = .slice none 0 0 ∨ ∃ ad cap, u0 = .slice (some ad) l0.length cap) → Calls Try.prog 19 #[.agg #[.int .i64 n0, u0]] W (fun e W' => e = .returned (.bool r0) ∧ Below W.heap.size W W')) :
    Calls Try.prog 4 #[.agg #[.int .i64 n0, v0]] w fun e w' => e = .returned (.bool true) ∧ Below w.heap.size w w' := by
  obtain ⟨a0, cap0, rfl, -, -⟩ := x0.form
  have HX0 := Lib.hid x0
  have HS := Lib.hid hs
  have HI := Lib.hid hi
  clear hs hi x0 
  have hne0 : (r0 != r0) = false := by simp
  have hp0 : (0 : Int) ≤ 1048576 - l0.length := by omega
  have hl90 : l0.length ≤ 100000000 := by omega
  have hl60 : l0.length ≤ 1048576 := by omega
  have BA0 := Lib.hid (BoxG.new w 24 n0 (.slice a0 l0.length cap0) ⟨_, _, _, rfl⟩)
  have F0 := Lib.hid ((Below.refl _ w).alloc (Nat.le_refl _) (.cells #[.int .i64 n0, .slice a0 l0.length cap0] 24))
  go_enter Try.func4, Try.ntmps4
  go_wp2_with fail
  refine (szGraph_fits n0 _ l0 _ _ (HX0.out.on F0.out) hs0 (by omega)).mono ?_
  rintro e w1 ⟨rfl, hb⟩
  have BA1 := Lib.hid (BA0.out.keep (below_grown hb) (by simp))
  have F1 := Lib.hid (F0.out.trans (hb.mono F0.out.size))
  clear BA0 F0 hb
  have hz0 : w.heap.size < w1.heap.size := BA1.out.2.2
  obtain ⟨cA0, cA1, cAz⟩ := BA1.out
  go_wp2_with fail
  refine (toGraph_any n0 _ l0 _ (HX0.out.on F1.out) hl60).mono ?_
  rintro e w2 ⟨s0, rfl, ho, hb⟩
  have BA2 := Lib.hid (BA1.out.keep (below_grown hb) (by simp))
  have F2 := Lib.hid (F1.out.trans (hb.mono F1.out.size))
  have hz1 : w1.heap.size ≤ w2.heap.size := hb.size
  have OT02 := Lib.hid ho
  clear BA1 F1 hb ho cA0 cA1 cAz
  go_wp2_with fail
  refine (HS.out _ _ OT02.out.ints OT02.out.nilform).mono ?_
  rintro e w3 ⟨rfl, hb⟩
  have BA3 := Lib.hid (BA2.out.keep (below_grown hb) (by simp))
  have OT03 := Lib.hid (OT02.out.keep (below_grown hb) (by simp))
  have F3 := Lib.hid (F2.out.trans (hb.mono F2.out.size))
  have hz2 : w2.heap.size ≤ w3.heap.size := hb.size
  clear BA2 OT02 F2 hb
  obtain ⟨cA0, cA1, cAz⟩ := BA3.out
  go_wp2_with fail
  refine (toGraph_any n0 _ l0 _ (HX0.out.on F3.out) hl60).mono ?_
  rintro e w4 ⟨vx0, rfl, ho, hb⟩
  have BA4 := Lib.hid (BA3.out.keep (below_grown hb) (by simp))
  have F4 := Lib.hid (F3.out.trans (hb.mono F3.out.size))
  have hz3 : w3.heap.size ≤ w4.heap.size := hb.size
  obtain ⟨ax0, capx0, rfl, -, -⟩ := ho.ints.form
  have X0L := Lib.hid ho.lt
  have OX04 := Lib.hid ho
  clear BA3 F3 hb ho cA0 cA1 cAz
  obtain ⟨w5, hw5⟩ : ∃ w5, w5 = w4.alloc (.cells #[.int .i64 n0, .slice ax0 l0.length capx0] 27) := ⟨_, rfl⟩
  have G5 : w4.grownBy w5 none := by rw [hw5]; exact grown_alloc _ _ _
  have hz4 : w4.heap.size < w5.heap.size := by rw [hw5]; simp
  have BA5 := Lib.hid (BA4.out.keep G5 (by simp))
  have OX05 := Lib.hid (OX04.out.keep G5 (by simp))
  have F5 := Lib.hid (show Below w.heap.size w w5 by rw [hw5]; exact F4.out.alloc F4.out.size _)
  have BX05 := Lib.hid (show BoxG w4.heap.size n0 (.slice ax0 l0.length capx0) w5 by rw [hw5]; exact BoxG.new w4 _ n0 _ ⟨_, _, _, rfl⟩)
  go_wp2_with fail
  rw [← hw5]
  clear hw5 G5 BA4 OX04 F4
  refine (HI.out _ _ OX05.out.ints OX05.out.nilform).mono ?_
  rintro e w6 ⟨rfl, hb⟩
  have BA6 := Lib.hid (BA5.out.keep (below_grown hb) (by simp))
  have BX06 := Lib.hid (BX05.out.keep (below_grown hb) (by simp))
  have OX06 := Lib.hid (OX05.out.keep (below_grown hb) (by simp))
  have F6 := Lib.hid (F5.out.trans (hb.mono F5.out.size))
  have hz5 : w5.heap.size ≤ w6.heap.size := hb.size
  clear BA5 BX05 OX05 F5 hb
  have hzA : w.heap.size < w6.heap.size := BA6.out.2.2
  have HR : Hid (∀ W, Below w6.heap.size w6 W → W.cell? ⟨w.heap.size, 0, none⟩ = some (.int .i64 n0) ∧ W.cell? ⟨w.heap.size, 1, none⟩ = some (.slice a0 l0.length cap0) ∧
      W.cell? ⟨w4.heap.size, 0, none⟩ = some (.int .i64 n0) ∧ W.cell? ⟨w4.heap.size, 1, none⟩ = some (.slice ax0 l0.length capx0) ∧ Ints W (.slice a0 l0.length cap0) l0 ∧ Ints W (.slice ax0 l0.length capx0) l0 ∧ Below w6.heap.size w6 W) := fun W hb => by
    have k1 := BA6.out.keep (below_grown hb) (by simp)
    have k2 := BX06.out.keep (below_grown hb) (by simp)
    exact ⟨k1.1, k1.2.1, k2.1, k2.2.1, HX0.out.on (F6.out.trans (hb.mono F6.out.size)), (OX06.out.keep (below_grown hb) (by simp)).ints, hb⟩
  go_wp2
  go_region_held3 (fun w' => w'.cell? ⟨w.heap.size, 0, none⟩ = some (.int .i64 n0) ∧ w'.cell? ⟨w.heap.size, 1, none⟩ = some (.slice a0 l0.length cap0) ∧
      w'.cell? ⟨w4.heap.size, 0, none⟩ = some (.int .i64 n0) ∧ w'.cell? ⟨w4.heap.size, 1, none⟩ = some (.slice ax0 l0.length capx0) ∧ Ints w' (.slice a0 l0.length cap0) l0 ∧ Ints w' (.slice ax0 l0.length capx0) l0 ∧ Below w6.heap.size w6 w')
    (first | exact HR.out _ (Below.refl _ _).drew | exact HR.out _ (Below.refl _ _) | (go_split_ands; exact HR.out _ (btrans (by assumption) hb)))
    (first
      | (go_at_call 11; go_split_ands; refine (toGraph_any n0 _ l0 _ (by assumption) hl60).mono ?_; rintro e wa ⟨v3, rfl, ho, hb⟩)
      | (go_at_call 14; go_split_ands; refine (eqGraph_same n0 _ _ l0 _ (by assumption) ho.ints hl90).mono ?_; rintro e w7 ⟨rfl, hb⟩))
  go_split_ands
  have hbE : Below w6.heap.size w6 w7 := by assumption
  have BA7 := Lib.hid (BA6.out.keep (below_grown hbE) (by simp))
  have BX07 := Lib.hid (BX06.out.keep (below_grown hbE) (by simp))
  have OX07 := Lib.hid (OX06.out.keep (below_grown hbE) (by simp))
  have F7 := Lib.hid (F6.out.trans (hbE.mono F6.out.size))
  have hz6 : w6.heap.size ≤ w7.heap.size := hbE.size
  clear BA6 BX06 OX06 F6 HR hbE hb ho
  go_wp2
  go_ret
  exact ⟨rfl, F7.out⟩

set_option maxHeartbeats 1000000 in
set_option maxRecDepth 100000 in
theorem walk (n0 : Int) (v0 : Value) (l0 : List Int) (w : World) (w0 : (Lit.int .i64 n0).wf = true) (x0 : Ints w v0 l0) : Calls Try.prog 4 #[.agg #[.int .i64 n0, v0]] w fun e w' => e = .returned (.bool true) ∧ Below w.heap.size w w' := by
  by_cases hb0 : 1048576 < (l0.length : Int)
  · obtain ⟨a, cap, rfl, hc, hm⟩ := x0.form
    have HX := Lib.hid x0
    clear x0 
    go_enter Try.func4, Try.ntmps4
    go_wp2_with fail
    refine (szGraph_over n0 _ l0 _ _ (HX.out.alloc _) hb0 (by omega)).mono ?_
    rintro e w1 ⟨rfl, hb⟩
    have HB := Lib.hid hb
    clear hb
    go_wp2
    go_ret
    exact ⟨rfl, ((Below.refl _ w).alloc (Nat.le_refl _) _).trans (HB.out.mono (by simp))⟩
  exact core n0 v0 l0 w w0 x0 (decide (SpD n0 l0)) (by omega)
    (fun W u0 h0 _ => (specSplitD n0 u0 l0 W h0).mono fun _ _ h => h.dec)
    (fun W u0 h0 _ => (implSplitD n0 u0 l0 W h0).mono fun _ _ h => h.dec)

set_option maxRecDepth 100000 in
theorem lifted (os : Os) (started : os.Started) (H : Type) (enc : TypeId × Value → H) :
    ReturnsInHanded {} Try.checked os 4 .any (Rows.fnExactSplitByDegreesSpec.pre6 enc Try.prog Try.f4 Rows.fnExactSplitByDegreesRow.domain false) (Rows.fnExactSplitByDegreesSpec.post enc Try.prog Try.f4 false true false false) := by
  refine returnsInHanded_of_change (C := Try.checked) own started (by kernel_rfl) Try.func4
    (ChangeSpec.witness6 (enc := enc) (C := Try.checked) false ⟨#[], #[.agg #[.int .i64 0, .slice none 0 0]], []⟩ 8 (by kernel_rfl) (by kernel_rfl) (by kernel_rfl) (by kernel_rfl)) ?_
  intro W base args ds gs before hval0 hW hcnd _
  have hval : ∀ (j : Nat) t v, Try.f4.params[j]? = some t → args[j]? = some v → Value.okWide Try.prog W .any base t v := hval0
  have hW' := hW
  obtain ⟨p, q, hA0, hV, rfl, hfz, hnd⟩ := hW
  have hA : DataW.TrodAll enc Try.prog W 0 (fun _ => true) true Try.f4.params.toList args.toList ds p := hA0
  rw [Try.params4] at hA hval
  obtain ⟨v0, vs0, d0, ds0, p0, q0, hargs, rfl, rfl, h0, r0⟩ := trodAll_cons hA
  obtain ⟨rfl, rfl, rfl⟩ := trodAll_nil r0
  obtain rfl : args = #[v0] := by cases args; simp_all
  obtain ⟨rfl, rfl⟩ := trodVars_none hV
  have k0 := h0
  obtain ⟨n0, u0, l0, rfl, w0, x0⟩ := open_graph Try.underlying24 (by kernel_rfl) (by kernel_rfl) Try.underlying3 Try.underlying22 Try.underlying3 (by kernel_rfl) (hval 0 24 v0 rfl rfl) h0
  clear hA0 hval0
  refine (walk n0 u0 l0 W w0 x0).mono fun e W' ⟨he, bel⟩ => ?_
  subst he
  exact ⟨_, rfl, _, _, _, [], _, [], hW', (trodAll_cons_mk (shut_bool Try.underlying4 _) trodAll_mk0), (trodAll_cons_mk (Below.trod laidOut (by kernel_rfl) (of_decide_eq_true (by kernel_rfl)) k0 bel (lt_of_trod k0)) trodAll_mk0), rfl, bel.frame _, fun h => by cases h⟩


theorem proved : Rows.FnExactSplitByDegreesSaid :=
  OpenClaim.holds_of_wide 4 Try.f4 rfl rfl rfl rfl rfl rfl rfl ⟨rfl, rfl, rfl, rfl, rfl⟩ rfl rfl rfl rfl rfl (by kernel_rfl) Try.func4 (by kernel_rfl)
    (of_decide_eq_true (by kernel_rfl)) (by unfold Func.isWrapper; first | (rw [if_pos (by decide +kernel)]; kernel_rfl) | (rw [if_neg (by decide +kernel)]; exact ⟨rfl, rfl⟩))
    (fun os started H enc _ => lifted os started H enc)
#print axioms proved
end Go.Proofs.Ytpifgmmmmhenmab.fnExactSplitByDegrees
