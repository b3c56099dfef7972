/- CanonicalCycle answers at every argument as its specification. -/
import Derived.Test.YteikiifjiapjaabRows
import Derived.Test.YteikiifjiapjaabSh
import Derived.Test.YteikiifjiapjaabGl
import Derived.Test.YteikiifjiapjaabGw
import Derived.Test.YteikiifjiapjaabCd
import Derived.WalkKit
import Derived.Lib.LaidTab
import Derived.ProofKit
import Derived.LaidMore
import Derived.OpenShut
import Derived.ShutString
import Derived.ChangeOld
import Derived.Below
import Derived.Stop.Joined
import Derived.Stop.LaidErr
namespace Go.Proofs.Yteikiifjiapjaab.fnExactCanonicalCycle
open Go.ChangeShapes Go.WideShapes Go.ChangeAt Go.RowKit
open Go.ChangeMaps (open_string shut_string)
set_option linter.unusedVariables false

theorem own : ownKnob Try.prog.godebug = none := by kernel_rfl

theorem laidOut : laidOutB Try.prog = true := by kernel_rfl

set_option maxHeartbeats 4000000 in
set_option maxRecDepth 100000 in
theorem core (v0 : Value) (l0 : List Int) (w : World) (w0 : Ints w v0 l0) (l' : List Int) (hl' : l'.length ≤ 1048576) (hs0 : (l0.length : Int) ≤ 1048576)
    (hs : ∀ (W : World) (u0 : Value), Ints W u0 l0 → (u0 = .slice none 0 0 ∨ ∃ ad cap, u0 = .slice (some ad) l0.length cap) → Calls Try.prog 16 #[u0] W (fun e W' => ∃ vr, e = .returned (vr) ∧ OwnI W.heap.size W' vr l' ∧ Below W.heap.size W W'))
    (hi : ∀ (W : World) (u0 : Value), Ints W u0 l0 → (u0 = .slice none 0 0 ∨ ∃ ad cap, u0 = .slice (some ad) l0.length cap) → Calls Try.prog 18 #[u0] W (fun e W' => ∃ vr, e = .returned (vr) ∧ OwnI W.heap.size W' vr l' ∧ Below W.heap.size W W')) :
    Calls Try.prog 3 #[v0] w fun e w' => e = .returned (.bool true) ∧ Below w.heap.size w w' := by
  obtain ⟨a0, cap0, rfl, -, hm0⟩ := w0.form
  have HX0 := Lib.hid w0
  unfold maxLen at hm0
  have HS := Lib.hid hs
  have HI := Lib.hid hi
  clear hs hi w0 
  have hp0 : (0 : Int) ≤ 1048576 - l0.length := by omega
  have hl90 : l0.length ≤ 100000000 := by omega
  have hl60 : l0.length ≤ 1048576 := by omega
  have hd0 : decide (1048576 < (l0.length : Int)) = false := by simp; omega
  have hl9' : l'.length ≤ 100000000 := by omega
  have F0 := Lib.hid (Below.refl w.heap.size w)
  go_enter Try.func3, Try.ntmps3
  go_wp2_with fail
  refine (toIntS_any _ l0 _ (HX0.out.on F0.out) hl60).mono ?_
  rintro e w1 ⟨s0, rfl, ho, hb⟩
  have F1 := Lib.hid (F0.out.trans (hb.mono F0.out.size))
  have hz0 : w.heap.size ≤ w1.heap.size := hb.size
  have OT01 := Lib.hid ho
  clear F0 hb ho
  go_wp2_with fail
  refine (HS.out _ _ OT01.out.ints OT01.out.nilform).mono ?_
  rintro e w2 ⟨vw, rfl, ho, hb⟩
  have OT02 := Lib.hid (OT01.out.keep (below_grown hb) (by simp))
  have F2 := Lib.hid (F1.out.trans (hb.mono F1.out.size))
  have hz1 : w1.heap.size ≤ w2.heap.size := hb.size
  have WL := Lib.hid ho.lt
  have OW2 := Lib.hid ho
  clear OT01 F1 hb ho
  go_wp2_with fail
  refine (toIntS_any _ l0 _ (HX0.out.on F2.out) hl60).mono ?_
  rintro e w3 ⟨vx0, rfl, ho, hb⟩
  have OW3 := Lib.hid (OW2.out.keep (below_grown hb) (by simp))
  have F3 := Lib.hid (F2.out.trans (hb.mono F2.out.size))
  have hz2 : w2.heap.size ≤ w3.heap.size := hb.size
  have X0L := Lib.hid ho.lt
  have OX03 := Lib.hid ho
  clear OW2 F2 hb ho
  go_wp2_with fail
  refine (HI.out _ _ OX03.out.ints OX03.out.nilform).mono ?_
  rintro e w4 ⟨vg, rfl, ho, hb⟩
  have OW4 := Lib.hid (OW3.out.keep (below_grown hb) (by simp))
  have OX04 := Lib.hid (OX03.out.keep (below_grown hb) (by simp))
  have F4 := Lib.hid (F3.out.trans (hb.mono F3.out.size))
  have hz3 : w3.heap.size ≤ w4.heap.size := hb.size
  have GL := Lib.hid ho.lt
  have OG4 := Lib.hid ho
  clear OW3 OX03 F3 hb ho
  go_wp2_with fail
  refine (eqIntS_same _ _ l' _ OG4.out.ints OW4.out.ints hl9').mono ?_
  rintro e w5 ⟨rfl, hb⟩
  have OW5 := Lib.hid (OW4.out.keep (below_grown hb) (by simp))
  have OX05 := Lib.hid (OX04.out.keep (below_grown hb) (by simp))
  have OG5 := Lib.hid (OG4.out.keep (below_grown hb) (by simp))
  have F5 := Lib.hid (F4.out.trans (hb.mono F4.out.size))
  have hz4 : w4.heap.size ≤ w5.heap.size := hb.size
  clear OW4 OX04 OG4 F4 hb
  go_wp2_with fail
  refine (toIntS_any _ l0 _ (HX0.out.on F5.out) hl60).mono ?_
  rintro e w6 ⟨vy0, rfl, ho, hb⟩
  have OW6 := Lib.hid (OW5.out.keep (below_grown hb) (by simp))
  have OX06 := Lib.hid (OX05.out.keep (below_grown hb) (by simp))
  have OG6 := Lib.hid (OG5.out.keep (below_grown hb) (by simp))
  have F6 := Lib.hid (F5.out.trans (hb.mono F5.out.size))
  have hz5 : w5.heap.size ≤ w6.heap.size := hb.size
  have OT06 := Lib.hid ho
  clear OW5 OX05 OG5 F5 hb ho
  go_wp2_with fail
  refine (eqIntS_same _ _ l0 _ OX06.out.ints OT06.out.ints hl90).mono ?_
  rintro e w7 ⟨rfl, hb⟩
  have OW7 := Lib.hid (OW6.out.keep (below_grown hb) (by simp))
  have OX07 := Lib.hid (OX06.out.keep (below_grown hb) (by simp))
  have OG7 := Lib.hid (OG6.out.keep (below_grown hb) (by simp))
  have OT07 := Lib.hid (OT06.out.keep (below_grown hb) (by simp))
  have F7 := Lib.hid (F6.out.trans (hb.mono F6.out.size))
  have hz6 : w6.heap.size ≤ w7.heap.size := hb.size
  clear OW6 OX06 OG6 OT06 F6 hb
  go_wp2_with fail
  refine (markIntS_any _ _ l0 (1 : Int) _ OX07.out hl90 (by omega) (by omega)).mono ?_
  rintro e w8 ⟨rfl, ho, hg⟩
  have OW8 := Lib.hid (OW7.out.keep hg (fun k hk j hj => by have := X0L.out _ hk; have := WL.out _ hj; omega))
  have OG8 := Lib.hid (OG7.out.keep hg (fun k hk j hj => by have := X0L.out _ hk; have := GL.out _ hj; omega))
  have F8 := Lib.hid (F7.out.grown hg F7.out.size (fun k hk => by have := (X0L.out _ hk).1; omega))
  have hz7 : w7.heap.size ≤ w8.heap.size := hg.size
  clear OW7 OX07 OG7 F7 hg ho
  have hk : decide ((1 + (l0.length : Int)) < 0) = false := by simp; omega
  go_wp2_with fail
  refine (eqIntS_same _ _ l' _ OG8.out.ints OW8.out.ints hl9').mono ?_
  rintro e w9 ⟨rfl, hb⟩
  have OW9 := Lib.hid (OW8.out.keep (below_grown hb) (by simp))
  have OG9 := Lib.hid (OG8.out.keep (below_grown hb) (by simp))
  have F9 := Lib.hid (F8.out.trans (hb.mono F8.out.size))
  have hz8 : w8.heap.size ≤ w9.heap.size := hb.size
  clear OW8 OG8 F8 hb
  go_wp2_with fail
  refine (markIntS_any _ _ l' 1 _ OG9.out hl9' (by omega) (by omega)).mono ?_
  rintro e w10 ⟨rfl, ho, hg⟩
  have OW10 := Lib.hid (OW9.out.keep hg (fun k hk j hj => by have := GL.out _ hk; have := WL.out _ hj; omega))
  have F10 := Lib.hid (F9.out.grown hg F9.out.size (fun k hk => by have := (GL.out _ hk).1; omega))
  have OG10 := Lib.hid ho
  have hz9 : w9.heap.size ≤ w10.heap.size := hg.size
  clear OW9 OG9 F9 hg ho
  go_wp2_with fail
  refine (heldIntS_any _ 1 l'.length _ OG10.out.ints hl9' (by omega) (by omega)).mono ?_
  rintro e w11 ⟨rfl, hb⟩
  replace hb := eq_below hb
  have OW11 := Lib.hid (OW10.out.keep (below_grown hb) (by simp))
  have OG11 := Lib.hid (OG10.out.keep (below_grown hb) (by simp))
  have F11 := Lib.hid (F10.out.trans (hb.mono F10.out.size))
  have hz10 : w10.heap.size ≤ w11.heap.size := hb.size
  clear OW10 OG10 F10 hb
  have hk' : decide ((1 : Int) + l'.length < 0) = false := by simp; omega
  have hq : ((1 : Int) + l'.length != 1 + l'.length) = false := by simp
  go_wp2_with fail
  refine (toIntS_any _ l0 _ (HX0.out.on F11.out) hl60).mono ?_
  rintro e w12 ⟨t0, rfl, ho, hb⟩
  have OW12 := Lib.hid (OW11.out.keep (below_grown hb) (by simp))
  have OG12 := Lib.hid (OG11.out.keep (below_grown hb) (by simp))
  have F12 := Lib.hid (F11.out.trans (hb.mono F11.out.size))
  have hz11 : w11.heap.size ≤ w12.heap.size := hb.size
  have OT012 := Lib.hid ho
  clear OW11 OG11 F11 hb ho
  go_wp2_with fail
  refine (HI.out _ _ OT012.out.ints OT012.out.nilform).mono ?_
  rintro e w13 ⟨vh, rfl, ho, hb⟩
  have OW13 := Lib.hid (OW12.out.keep (below_grown hb) (by simp))
  have OG13 := Lib.hid (OG12.out.keep (below_grown hb) (by simp))
  have OT013 := Lib.hid (OT012.out.keep (below_grown hb) (by simp))
  have F13 := Lib.hid (F12.out.trans (hb.mono F12.out.size))
  have hz12 : w12.heap.size ≤ w13.heap.size := hb.size
  have HL := Lib.hid ho.lt
  have OH13 := Lib.hid ho
  clear OW12 OG12 OT012 F12 hb ho
  go_wp2_with fail
  refine (eqIntS_same _ _ l' _ OH13.out.ints OW13.out.ints hl9').mono ?_
  rintro e w14 ⟨rfl, hb⟩
  have OW14 := Lib.hid (OW13.out.keep (below_grown hb) (by simp))
  have OG14 := Lib.hid (OG13.out.keep (below_grown hb) (by simp))
  have OH14 := Lib.hid (OH13.out.keep (below_grown hb) (by simp))
  have F14 := Lib.hid (F13.out.trans (hb.mono F13.out.size))
  have hz13 : w13.heap.size ≤ w14.heap.size := hb.size
  clear OW13 OG13 OH13 F13 hb
  go_wp2_with fail
  refine (heldIntS_any _ 1 l'.length _ OG14.out.ints hl9' (by omega) (by omega)).mono ?_
  rintro e w15 ⟨rfl, hb⟩
  replace hb := eq_below hb
  have OW15 := Lib.hid (OW14.out.keep (below_grown hb) (by simp))
  have OG15 := Lib.hid (OG14.out.keep (below_grown hb) (by simp))
  have F15 := Lib.hid (F14.out.trans (hb.mono F14.out.size))
  have hz14 : w14.heap.size ≤ w15.heap.size := hb.size
  clear OW14 OG14 F14 hb
  go_wp2
  go_ret
  exact ⟨rfl, F15.out⟩

set_option maxHeartbeats 1000000 in
set_option maxRecDepth 100000 in
theorem walk (v0 : Value) (l0 : List Int) (w : World) (w0 : Ints w v0 l0) : Calls Try.prog 3 #[v0] w fun e w' => e = .returned (.bool true) ∧ Below w.heap.size w w' := by
  by_cases hb0 : 1048576 < (l0.length : Int)
  · obtain ⟨a, cap, rfl, -, hm⟩ := w0.form
    clear w0
    have hd : decide (1048576 < (l0.length : Int)) = true := by simp [hb0]
    go_enter Try.func3, Try.ntmps3
    go_wp2
    go_ret
    exact ⟨rfl, Below.refl _ _⟩
  exact core v0 l0 w w0 (canR l0) (by rw [canR_len]; omega) (by omega)
    (fun W u0 h0 f0 => specCan u0 l0 W h0 f0 (by omega))
    (fun W u0 h0 f0 => implCan u0 l0 W h0 f0 (by omega))

set_option maxRecDepth 100000 in
theorem lifted (os : Os) (started : os.Started) (H : Type) (enc : TypeId × Value → H) :
    ReturnsInHanded {} Try.checked os 3 .any (Rows.fnExactCanonicalCycleSpec.pre6 enc Try.prog Try.f3 Rows.fnExactCanonicalCycleRow.domain false) (Rows.fnExactCanonicalCycleSpec.post enc Try.prog Try.f3 false true false false) := by
  refine returnsInHanded_of_change (C := Try.checked) own started (by kernel_rfl) Try.func3
    (ChangeSpec.witness6 (enc := enc) (C := Try.checked) false ⟨#[], #[.slice none 0 0], []⟩ 8 (by kernel_rfl) (by kernel_rfl) (by kernel_rfl) (by kernel_rfl)) ?_
  intro W base args ds gs before hval0 hW hcnd _
  have hval : ∀ (j : Nat) t v, Try.f3.params[j]? = some t → args[j]? = some v → Value.okWide Try.prog W .any base t v := hval0
  have hW' := hW
  obtain ⟨p, q, hA0, hV, rfl, hfz, hnd⟩ := hW
  have hA : DataW.TrodAll enc Try.prog W 0 (fun _ => true) true Try.f3.params.toList args.toList ds p := hA0
  rw [Try.params3] at hA hval
  obtain ⟨v0, vs0, d0, ds0, p0, q0, hargs, rfl, rfl, h0, r0⟩ := trodAll_cons hA
  obtain ⟨rfl, rfl, rfl⟩ := trodAll_nil r0
  obtain rfl : args = #[v0] := by cases args; simp_all
  obtain ⟨rfl, rfl⟩ := trodVars_none hV
  have k0 := h0
  obtain ⟨l0, w0⟩ := open_ints_arg Try.underlying22 Try.underlying3 (by kernel_rfl) (hval 0 22 v0 rfl rfl) h0
  clear hA0 hval0
  refine (walk v0 l0 W w0).mono fun e W' ⟨he, bel⟩ => ?_
  subst he
  exact ⟨_, rfl, _, _, _, [], _, [], hW', (trodAll_cons_mk (shut_bool Try.underlying4 _) trodAll_mk0), (trodAll_cons_mk (Below.trod laidOut (by kernel_rfl) (of_decide_eq_true (by kernel_rfl)) k0 bel (lt_of_trod k0)) trodAll_mk0), rfl, bel.frame _, fun h => by cases h⟩


theorem proved : Rows.FnExactCanonicalCycleSaid :=
  OpenClaim.holds_of_wide 3 Try.f3 rfl rfl rfl rfl rfl rfl rfl ⟨rfl, rfl, rfl, rfl, rfl⟩ rfl rfl rfl rfl rfl (by kernel_rfl) Try.func3 (by kernel_rfl)
    (of_decide_eq_true (by kernel_rfl)) (by unfold Func.isWrapper; first | (rw [if_pos (by decide +kernel)]; kernel_rfl) | (rw [if_neg (by decide +kernel)]; exact ⟨rfl, rfl⟩))
    (fun os started H enc _ => lifted os started H enc)
#print axioms proved
end Go.Proofs.Yteikiifjiapjaab.fnExactCanonicalCycle
