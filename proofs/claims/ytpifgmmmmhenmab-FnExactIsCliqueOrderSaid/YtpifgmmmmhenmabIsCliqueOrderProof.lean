/- At every graph and list IsCliqueOrder answers as its specification and writes into no argument. -/
import Derived.Test.YtpifgmmmmhenmabRows
import Derived.Test.YtpifgmmmmhenmabSh
import Derived.Test.YtpifgmmmmhenmabGl
import Derived.Test.YtpifgmmmmhenmabSh
import Derived.Test.YtpifgmmmmhenmabCq
import Derived.WalkKit
import Derived.Lib.LaidTab
import Derived.ProofKit
import Derived.LaidMore
import Derived.OpenShut
import Derived.ShutString
import Derived.ChangeOld
import Derived.Below
import Derived.Stop.Joined
import Derived.Stop.LaidErr
namespace Go.Proofs.Ytpifgmmmmhenmab.fnExactIsCliqueOrder
open Go.ChangeShapes Go.WideShapes Go.ChangeAt Go.RowKit
open Go.ChangeMaps (open_string shut_string)
set_option linter.unusedVariables false

theorem own : ownKnob Try.prog.godebug = none := by kernel_rfl

theorem laidOut : laidOutB Try.prog = true := by kernel_rfl

set_option maxHeartbeats 4000000 in
set_option maxRecDepth 100000 in
theorem core (n0 : Int) (v0 : Value) (l0 : List Int) (v1 : Value) (l1 : List Int) (w : World) (w0 : (Lit.int .i64 n0).wf = true) (x0 : Ints w v0 l0) (w1 : Ints w v1 l1) (r0 : Bool) (hs0 : (l0.length : Int) ≤ 1048576) (hs1 : (l1.length : Int) ≤ 1048576)
    (hs : ∀ (W : World) (u0 : Value) (u1 : Value), Ints W u0 l0 → Ints W u1 l1 → (u0 = .slice none 0 0 ∨ ∃ ad cap, u0 = .slice (some ad) l0.length cap) → (u1 = .slice none 0 0 ∨ ∃ ad cap, u1 = .slice (some ad) l1.length cap) → Calls Try.prog 20 #[.agg #[.int .i64 n0, u0], u1] W (fun e W' => e = .returned (.bool r0) ∧ Below W.heap.size W W'))
    (hi : ∀ (W : World) (u0 : Value) (u1 : Value), Ints W u0 l0 → Ints W u1 l1 → (u0 = .slice none 0 0 ∨ ∃ ad cap, u0 = .slice (some ad) l0.length cap) → (u1 = .slice none 0 0 ∨ ∃ ad cap, u1 = .slice (some ad) l1.length cap) → Calls Try.prog 22 #[.agg #[.int .i64 n0, u0], u1] W (fun e W' => e = .returned (.bool r0) ∧ Below W.heap.size W W')) :
    Calls Try.prog 5 #[.agg #[.int .i64 n0, v0], v1] w fun e w' => e = .returned (.bool true) ∧ Below w.heap.size w w' := by
  obtain ⟨a0, cap0, rfl, -, -⟩ := x0.form
  have HX0 := Lib.hid x0
  obtain ⟨a1, cap1, rfl, -, hm1⟩ := w1.form
  have HX1 := Lib.hid w1
  unfold maxLen at hm1
  have HS := Lib.hid hs
  have HI := Lib.hid hi
  clear hs hi x0 w1 
  have hne0 : (r0 != r0) = false := by simp
  have hp0 : (0 : Int) ≤ 1048576 - l0.length := by omega
  have hl90 : l0.length ≤ 100000000 := by omega
  have hl60 : l0.length ≤ 1048576 := by omega
  have hp1 : (0 : Int) ≤ 1048576 - l1.length := by omega
  have hl91 : l1.length ≤ 100000000 := by omega
  have hl61 : l1.length ≤ 1048576 := by omega
  have hd1 : decide (1048576 < (l1.length : Int)) = false := by simp; omega
  have BA0 := Lib.hid (BoxG.new w 24 n0 (.slice a0 l0.length cap0) ⟨_, _, _, rfl⟩)
  have F0 := Lib.hid ((Below.refl _ w).alloc (Nat.le_refl _) (.cells #[.int .i64 n0, .slice a0 l0.length cap0] 24))
  go_enter Try.func5, Try.ntmps5
  go_wp2_with fail
  refine (szGraph_fits n0 _ l0 _ _ (HX0.out.on F0.out) hs0 (by omega)).mono ?_
  rintro e w1 ⟨rfl, hb⟩
  have BA1 := Lib.hid (BA0.out.keep (below_grown hb) (by simp))
  have F1 := Lib.hid (F0.out.trans (hb.mono F0.out.size))
  clear BA0 F0 hb
  have hz0 : w.heap.size < w1.heap.size := BA1.out.2.2
  obtain ⟨cA0, cA1, cAz⟩ := BA1.out
  go_wp2_with fail
  refine (toGraph_any n0 _ l0 _ (HX0.out.on F1.out) hl60).mono ?_
  rintro e w2 ⟨s0, rfl, ho, hb⟩
  have BA2 := Lib.hid (BA1.out.keep (below_grown hb) (by simp))
  have F2 := Lib.hid (F1.out.trans (hb.mono F1.out.size))
  have hz1 : w1.heap.size ≤ w2.heap.size := hb.size
  have OT02 := Lib.hid ho
  clear BA1 F1 hb ho cA0 cA1 cAz
  go_wp2_with fail
  refine (toIntS_any _ l1 _ (HX1.out.on F2.out) hl61).mono ?_
  rintro e w3 ⟨s1, rfl, ho, hb⟩
  have BA3 := Lib.hid (BA2.out.keep (below_grown hb) (by simp))
  have OT03 := Lib.hid (OT02.out.keep (below_grown hb) (by simp))
  have F3 := Lib.hid (F2.out.trans (hb.mono F2.out.size))
  have hz2 : w2.heap.size ≤ w3.heap.size := hb.size
  have OT13 := Lib.hid ho
  clear BA2 OT02 F2 hb ho
  go_wp2_with fail
  refine (HS.out _ _ _ OT03.out.ints OT13.out.ints OT03.out.nilform OT13.out.nilform).mono ?_
  rintro e w4 ⟨rfl, hb⟩
  have BA4 := Lib.hid (BA3.out.keep (below_grown hb) (by simp))
  have OT04 := Lib.hid (OT03.out.keep (below_grown hb) (by simp))
  have OT14 := Lib.hid (OT13.out.keep (below_grown hb) (by simp))
  have F4 := Lib.hid (F3.out.trans (hb.mono F3.out.size))
  have hz3 : w3.heap.size ≤ w4.heap.size := hb.size
  clear BA3 OT03 OT13 F3 hb
  obtain ⟨cA0, cA1, cAz⟩ := BA4.out
  go_wp2_with fail
  refine (toGraph_any n0 _ l0 _ (HX0.out.on F4.out) hl60).mono ?_
  rintro e w5 ⟨vx0, rfl, ho, hb⟩
  have BA5 := Lib.hid (BA4.out.keep (below_grown hb) (by simp))
  have F5 := Lib.hid (F4.out.trans (hb.mono F4.out.size))
  have hz4 : w4.heap.size ≤ w5.heap.size := hb.size
  obtain ⟨ax0, capx0, rfl, -, -⟩ := ho.ints.form
  have X0L := Lib.hid ho.lt
  have OX05 := Lib.hid ho
  clear BA4 F4 hb ho cA0 cA1 cAz
  obtain ⟨w6, hw6⟩ : ∃ w6, w6 = w5.alloc (.cells #[.int .i64 n0, .slice ax0 l0.length capx0] 27) := ⟨_, rfl⟩
  have G6 : w5.grownBy w6 none := by rw [hw6]; exact grown_alloc _ _ _
  have hz5 : w5.heap.size < w6.heap.size := by rw [hw6]; simp
  have BA6 := Lib.hid (BA5.out.keep G6 (by simp))
  have OX06 := Lib.hid (OX05.out.keep G6 (by simp))
  have F6 := Lib.hid (show Below w.heap.size w w6 by rw [hw6]; exact F5.out.alloc F5.out.size _)
  have BX06 := Lib.hid (show BoxG w5.heap.size n0 (.slice ax0 l0.length capx0) w6 by rw [hw6]; exact BoxG.new w5 _ n0 _ ⟨_, _, _, rfl⟩)
  go_wp2_with fail
  rw [← hw6]
  clear hw6 G6 BA5 OX05 F5
  refine (toIntS_any _ l1 _ (HX1.out.on F6.out) hl61).mono ?_
  rintro e w7 ⟨vx1, rfl, ho, hb⟩
  have BA7 := Lib.hid (BA6.out.keep (below_grown hb) (by simp))
  have BX07 := Lib.hid (BX06.out.keep (below_grown hb) (by simp))
  have OX07 := Lib.hid (OX06.out.keep (below_grown hb) (by simp))
  have F7 := Lib.hid (F6.out.trans (hb.mono F6.out.size))
  have hz6 : w6.heap.size ≤ w7.heap.size := hb.size
  have X1L := Lib.hid ho.lt
  have OX17 := Lib.hid ho
  clear BA6 BX06 OX06 F6 hb ho
  obtain ⟨cX00, cX01, cX0z⟩ := BX07.out
  go_wp2_with fail
  refine (HI.out _ _ _ OX07.out.ints OX17.out.ints OX07.out.nilform OX17.out.nilform).mono ?_
  rintro e w8 ⟨rfl, hb⟩
  have BA8 := Lib.hid (BA7.out.keep (below_grown hb) (by simp))
  have BX08 := Lib.hid (BX07.out.keep (below_grown hb) (by simp))
  have OX08 := Lib.hid (OX07.out.keep (below_grown hb) (by simp))
  have OX18 := Lib.hid (OX17.out.keep (below_grown hb) (by simp))
  have F8 := Lib.hid (F7.out.trans (hb.mono F7.out.size))
  have hz7 : w7.heap.size ≤ w8.heap.size := hb.size
  clear BA7 BX07 OX07 OX17 F7 hb cX00 cX01 cX0z
  have hzA : w.heap.size < w8.heap.size := BA8.out.2.2
  have HR : Hid (∀ W, Below w8.heap.size w8 W → W.cell? ⟨w.heap.size, 0, none⟩ = some (.int .i64 n0) ∧ W.cell? ⟨w.heap.size, 1, none⟩ = some (.slice a0 l0.length cap0) ∧
      W.cell? ⟨w5.heap.size, 0, none⟩ = some (.int .i64 n0) ∧ W.cell? ⟨w5.heap.size, 1, none⟩ = some (.slice ax0 l0.length capx0) ∧ Ints W (.slice a0 l0.length cap0) l0 ∧ Ints W (.slice ax0 l0.length capx0) l0 ∧ Below w8.heap.size w8 W) := fun W hb => by
    have k1 := BA8.out.keep (below_grown hb) (by simp)
    have k2 := BX08.out.keep (below_grown hb) (by simp)
    exact ⟨k1.1, k1.2.1, k2.1, k2.2.1, HX0.out.on (F8.out.trans (hb.mono F8.out.size)), (OX08.out.keep (below_grown hb) (by simp)).ints, hb⟩
  go_wp2
  go_region_held3 (fun w' => w'.cell? ⟨w.heap.size, 0, none⟩ = some (.int .i64 n0) ∧ w'.cell? ⟨w.heap.size, 1, none⟩ = some (.slice a0 l0.length cap0) ∧
      w'.cell? ⟨w5.heap.size, 0, none⟩ = some (.int .i64 n0) ∧ w'.cell? ⟨w5.heap.size, 1, none⟩ = some (.slice ax0 l0.length capx0) ∧ Ints w' (.slice a0 l0.length cap0) l0 ∧ Ints w' (.slice ax0 l0.length capx0) l0 ∧ Below w8.heap.size w8 w')
    (first | exact HR.out _ (Below.refl _ _).drew | exact HR.out _ (Below.refl _ _) | (go_split_ands; exact HR.out _ (btrans (by assumption) hb)))
    (first
      | (go_at_call 11; go_split_ands; refine (toGraph_any n0 _ l0 _ (by assumption) hl60).mono ?_; rintro e wa ⟨v3, rfl, ho, hb⟩)
      | (go_at_call 14; go_split_ands; refine (eqGraph_same n0 _ _ l0 _ (by assumption) ho.ints hl90).mono ?_; rintro e w9 ⟨rfl, hb⟩))
  go_split_ands
  have hbE : Below w8.heap.size w8 w9 := by assumption
  have BA9 := Lib.hid (BA8.out.keep (below_grown hbE) (by simp))
  have BX09 := Lib.hid (BX08.out.keep (below_grown hbE) (by simp))
  have OX09 := Lib.hid (OX08.out.keep (below_grown hbE) (by simp))
  have OX19 := Lib.hid (OX18.out.keep (below_grown hbE) (by simp))
  have F9 := Lib.hid (F8.out.trans (hbE.mono F8.out.size))
  have hz8 : w8.heap.size ≤ w9.heap.size := hbE.size
  clear BA8 BX08 OX08 OX18 F8 HR hbE hb ho
  go_wp2_with fail
  refine (toIntS_any _ l1 _ (HX1.out.on F9.out) hl61).mono ?_
  rintro e w10 ⟨vy1, rfl, ho, hb⟩
  have BA10 := Lib.hid (BA9.out.keep (below_grown hb) (by simp))
  have BX010 := Lib.hid (BX09.out.keep (below_grown hb) (by simp))
  have OX010 := Lib.hid (OX09.out.keep (below_grown hb) (by simp))
  have OX110 := Lib.hid (OX19.out.keep (below_grown hb) (by simp))
  have F10 := Lib.hid (F9.out.trans (hb.mono F9.out.size))
  have hz9 : w9.heap.size ≤ w10.heap.size := hb.size
  have OT110 := Lib.hid ho
  clear BA9 BX09 OX09 OX19 F9 hb ho
  go_wp2_with fail
  refine (eqIntS_same _ _ l1 _ OX110.out.ints OT110.out.ints hl91).mono ?_
  rintro e w11 ⟨rfl, hb⟩
  have BA11 := Lib.hid (BA10.out.keep (below_grown hb) (by simp))
  have BX011 := Lib.hid (BX010.out.keep (below_grown hb) (by simp))
  have OX011 := Lib.hid (OX010.out.keep (below_grown hb) (by simp))
  have OX111 := Lib.hid (OX110.out.keep (below_grown hb) (by simp))
  have OT111 := Lib.hid (OT110.out.keep (below_grown hb) (by simp))
  have F11 := Lib.hid (F10.out.trans (hb.mono F10.out.size))
  have hz10 : w10.heap.size ≤ w11.heap.size := hb.size
  clear BA10 BX010 OX010 OX110 OT110 F10 hb
  go_wp2
  go_ret
  exact ⟨rfl, F11.out⟩

set_option maxHeartbeats 1000000 in
set_option maxRecDepth 100000 in
theorem walk (n0 : Int) (v0 : Value) (l0 : List Int) (v1 : Value) (l1 : List Int) (w : World) (w0 : (Lit.int .i64 n0).wf = true) (x0 : Ints w v0 l0) (w1 : Ints w v1 l1) : Calls Try.prog 5 #[.agg #[.int .i64 n0, v0], v1] w fun e w' => e = .returned (.bool true) ∧ Below w.heap.size w w' := by
  by_cases hb1 : 1048576 < (l1.length : Int)
  · obtain ⟨a, cap, rfl, -, hm⟩ := w1.form
    obtain ⟨a', cap', rfl, -, -⟩ := x0.form
    clear x0 w1
    have hd : decide (1048576 < (l1.length : Int)) = true := by simp [hb1]
    go_enter Try.func5, Try.ntmps5
    go_wp2
    go_ret
    exact ⟨rfl, (Below.refl _ w).alloc (Nat.le_refl _) _⟩
  by_cases hb0 : 1048576 < (l0.length : Int)
  · obtain ⟨a, cap, rfl, hc, hm⟩ := x0.form
    have HX := Lib.hid x0
    obtain ⟨a1', cap1', rfl, -, hm1⟩ := w1.form
    have hd1 : decide (1048576 < (l1.length : Int)) = false := by simp; omega
    clear x0 w1 
    go_enter Try.func5, Try.ntmps5
    go_wp2_with fail
    refine (szGraph_over n0 _ l0 _ _ (HX.out.alloc _) hb0 (by omega)).mono ?_
    rintro e w1 ⟨rfl, hb⟩
    have HB := Lib.hid hb
    clear hb
    go_wp2
    go_ret
    exact ⟨rfl, ((Below.refl _ w).alloc (Nat.le_refl _) _).trans (HB.out.mono (by simp))⟩
  have hs1' : l1.length ≤ 1048576 := by omega
  exact core n0 v0 l0 v1 l1 w w0 x0 w1 (decide (CqoP n0 l0 l1)) (by omega) (by omega)
    (fun W u0 u1 h0 h1 _ _ => (specCqo n0 u0 u1 l0 l1 W h0 h1 hs1').mono fun _ _ h => h.dec)
    (fun W u0 u1 h0 h1 _ f1 => (implCqo n0 u0 u1 l0 l1 W h0 h1 f1 hs1').mono fun _ _ h => h.dec)

set_option maxRecDepth 100000 in
theorem lifted (os : Os) (started : os.Started) (H : Type) (enc : TypeId × Value → H) :
    ReturnsInHanded {} Try.checked os 5 .any (Rows.fnExactIsCliqueOrderSpec.pre6 enc Try.prog Try.f5 Rows.fnExactIsCliqueOrderRow.domain false) (Rows.fnExactIsCliqueOrderSpec.post enc Try.prog Try.f5 false true false false) := by
  refine returnsInHanded_of_change (C := Try.checked) own started (by kernel_rfl) Try.func5
    (ChangeSpec.witness6 (enc := enc) (C := Try.checked) false ⟨#[], #[.agg #[.int .i64 0, .slice none 0 0], .slice none 0 0], []⟩ 8 (by kernel_rfl) (by kernel_rfl) (by kernel_rfl) (by kernel_rfl)) ?_
  intro W base args ds gs before hval0 hW hcnd _
  have hval : ∀ (j : Nat) t v, Try.f5.params[j]? = some t → args[j]? = some v → Value.okWide Try.prog W .any base t v := hval0
  have hW' := hW
  obtain ⟨p, q, hA0, hV, rfl, hfz, hnd⟩ := hW
  have hA : DataW.TrodAll enc Try.prog W 0 (fun _ => true) true Try.f5.params.toList args.toList ds p := hA0
  rw [Try.params5] at hA hval
  obtain ⟨v0, vs0, d0, ds0, p0, q0, hargs, rfl, rfl, h0, r0⟩ := trodAll_cons hA
  obtain ⟨v1, vs1, d1, ds1, p1, q1, rfl, rfl, rfl, h1, r1⟩ := trodAll_cons r0
  obtain ⟨rfl, rfl, rfl⟩ := trodAll_nil r1
  obtain rfl : args = #[v0, v1] := by cases args; simp_all
  obtain ⟨rfl, rfl⟩ := trodVars_none hV
  have k0 := h0
  obtain ⟨n0, u0, l0, rfl, w0, x0⟩ := open_graph Try.underlying24 (by kernel_rfl) (by kernel_rfl) Try.underlying3 Try.underlying22 Try.underlying3 (by kernel_rfl) (hval 0 24 v0 rfl rfl) h0
  have k1 := h1
  obtain ⟨l1, w1⟩ := open_ints_arg Try.underlying22 Try.underlying3 (by kernel_rfl) (hval 1 22 v1 rfl rfl) h1
  clear hA0 hval0
  refine (walk n0 u0 l0 v1 l1 W w0 x0 w1).mono fun e W' ⟨he, bel⟩ => ?_
  subst he
  exact ⟨_, rfl, _, _, _, [], _, [], hW', (trodAll_cons_mk (shut_bool Try.underlying4 _) trodAll_mk0), (trodAll_cons_mk (Below.trod laidOut (by kernel_rfl) (of_decide_eq_true (by kernel_rfl)) k0 bel (lt_of_trod k0)) (trodAll_cons_mk (Below.trod laidOut (by kernel_rfl) (of_decide_eq_true (by kernel_rfl)) k1 bel (lt_of_trod k1)) trodAll_mk0)), rfl, bel.frame _, fun h => by cases h⟩


theorem proved : Rows.FnExactIsCliqueOrderSaid :=
  OpenClaim.holds_of_wide 5 Try.f5 rfl rfl rfl rfl rfl rfl rfl ⟨rfl, rfl, rfl, rfl, rfl⟩ rfl rfl rfl rfl rfl (by kernel_rfl) Try.func5 (by kernel_rfl)
    (of_decide_eq_true (by kernel_rfl)) (by unfold Func.isWrapper; first | (rw [if_pos (by decide +kernel)]; kernel_rfl) | (rw [if_neg (by decide +kernel)]; exact ⟨rfl, rfl⟩))
    (fun os started H enc _ => lifted os started H enc)
#print axioms proved
end Go.Proofs.Ytpifgmmmmhenmab.fnExactIsCliqueOrder
