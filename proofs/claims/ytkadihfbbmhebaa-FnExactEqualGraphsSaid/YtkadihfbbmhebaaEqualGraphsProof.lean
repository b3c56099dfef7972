/- EqualGraphs answers as the specification, at all pairs of graphs. -/
import Derived.Test.YtkadihfbbmhebaaRows
import Derived.Test.YtkadihfbbmhebaaSh
import Derived.Test.YtkadihfbbmhebaaGe
import Derived.WalkKit
import Derived.Lib.LaidTab
import Derived.ProofKit
import Derived.LaidMore
import Derived.OpenShut
import Derived.ShutString
import Derived.ChangeOld
import Derived.Below
import Derived.Stop.Joined
import Derived.Stop.LaidErr
namespace Go.Proofs.Ytkadihfbbmhebaa.fnExactEqualGraphs
open Go.ChangeShapes Go.WideShapes Go.ChangeAt Go.RowKit
open Go.ChangeMaps (open_string shut_string)
set_option linter.unusedVariables false

theorem own : ownKnob Try.prog.godebug = none := by kernel_rfl

theorem laidOut : laidOutB Try.prog = true := by kernel_rfl

set_option maxHeartbeats 4000000 in
set_option maxRecDepth 100000 in
theorem core (n0 : Int) (v0 : Value) (l0 : List Int) (n1 : Int) (v1 : Value) (l1 : List Int) (w : World) (w0 : (Lit.int .i64 n0).wf = true) (x0 : Ints w v0 l0) (w1 : (Lit.int .i64 n1).wf = true) (x1 : Ints w v1 l1) (hbig : (l0.length : Int) + l1.length ≤ 1048576) :
    Calls Try.prog 9 #[.agg #[.int .i64 n0, v0], .agg #[.int .i64 n1, v1]] w fun e w' => e = .returned (.bool true) ∧ Below w.heap.size w w' := by
  obtain ⟨a, cap, rfl, -, -⟩ := x0.form
  obtain ⟨c, capc, rfl, -, -⟩ := x1.form
  have HX := Lib.hid x0
  have HY := Lib.hid x1
  clear x0 x1 w0 w1
  have hp : (0 : Int) ≤ 1048576 - l0.length := by omega
  have hp2 : (0 : Int) ≤ 1048576 - l0.length - l1.length := by omega
  have hl9 : l0.length ≤ 100000000 := by omega
  have hl6 : l0.length ≤ 1048576 := by omega
  have hm9 : l1.length ≤ 100000000 := by omega
  have hm6 : l1.length ≤ 1048576 := by omega
  have hf1 : (l0.length : Int) ≤ 1048576 := by omega
  have hf2 : (l1.length : Int) ≤ 1048576 - l0.length := by omega
  have hf3 : (1048576 : Int) - l0.length ≤ 1048576 := by omega
  have A0 := Lib.hid ((BoxG.new w 24 n0 (.slice a l0.length cap) ⟨_, _, _, rfl⟩).keep (grown_alloc _ (.cells #[.int .i64 n1, .slice c l1.length capc] 24) none) (by simp))
  have C0 := Lib.hid (BoxG.new (w.alloc (.cells #[.int .i64 n0, .slice a l0.length cap] 24)) 24 n1 (.slice c l1.length capc) ⟨_, _, _, rfl⟩)
  have F0 := Lib.hid (((Below.refl _ w).alloc (Nat.le_refl _) (.cells #[.int .i64 n0, .slice a l0.length cap] 24)).alloc (by simp) (.cells #[.int .i64 n1, .slice c l1.length capc] 24))
  rw [World.size_alloc] at C0
  go_enter Try.func9, Try.ntmps9
  go_wp2_with fail
  refine (szGraph_fits n0 _ l0 _ _ (HX.out.on F0.out) hf1 (by omega)).mono ?_
  rintro e w1 ⟨rfl, hb⟩
  have A1 := Lib.hid (A0.out.keep (below_grown hb) (by simp))
  have C1 := Lib.hid (C0.out.keep (below_grown hb) (by simp))
  have F1 := Lib.hid (F0.out.trans (hb.mono F0.out.size))
  clear hb A0 C0 F0
  obtain ⟨q0, q1, qz⟩ := C1.out
  go_wp2_with fail
  refine (szGraph_fits n1 _ l1 _ _ (HY.out.on F1.out) hf2 hf3).mono ?_
  rintro e w2 ⟨rfl, hb⟩
  have A2 := Lib.hid (A1.out.keep (below_grown hb) (by simp))
  have C2 := Lib.hid (C1.out.keep (below_grown hb) (by simp))
  have F2 := Lib.hid (F1.out.trans (hb.mono F1.out.size))
  clear hb A1 C1 F1 q0 q1 qz
  have HS2 : Hid (∀ W, Below w2.heap.size w2 W → W.cell? ⟨w.heap.size, 0, none⟩ = some (.int .i64 n0) ∧ W.cell? ⟨w.heap.size, 1, none⟩ = some (.slice a l0.length cap) ∧
      W.cell? ⟨w.heap.size + 1, 0, none⟩ = some (.int .i64 n1) ∧ W.cell? ⟨w.heap.size + 1, 1, none⟩ = some (.slice c l1.length capc) ∧ Ints W (.slice a l0.length cap) l0 ∧ Ints W (.slice c l1.length capc) l1 ∧ Below w2.heap.size w2 W) := fun W hb => by
    have k1 := A2.out.keep (below_grown hb) (by simp)
    have k2 := C2.out.keep (below_grown hb) (by simp)
    exact ⟨k1.1, k1.2.1, k2.1, k2.2.1, HX.out.on (F2.out.trans (hb.mono F2.out.size)), HY.out.on (F2.out.trans (hb.mono F2.out.size)), hb⟩
  go_wp2
  go_region_held3 (fun w' => w'.cell? ⟨w.heap.size, 0, none⟩ = some (.int .i64 n0) ∧ w'.cell? ⟨w.heap.size, 1, none⟩ = some (.slice a l0.length cap) ∧
      w'.cell? ⟨w.heap.size + 1, 0, none⟩ = some (.int .i64 n1) ∧ w'.cell? ⟨w.heap.size + 1, 1, none⟩ = some (.slice c l1.length capc) ∧ Ints w' (.slice a l0.length cap) l0 ∧ Ints w' (.slice c l1.length capc) l1 ∧ Below w2.heap.size w2 w')
    (first | exact HS2.out _ (Below.refl _ _).drew | exact HS2.out _ (Below.refl _ _) | (go_split_ands; exact HS2.out _ (btrans (by assumption) hb)))
    (first
      | (go_at_call_of 13 (Value.agg #[Value.int IntKind.i64 n0, Value.slice a l0.length cap]); go_split_ands; refine (toGraph_any n0 _ l0 _ (by assumption) hl6).mono ?_; rintro e wa ⟨va, rfl, hoa, hb⟩; first | (have hoc := OwnI.keep hoc (below_grown hb) (by simp)) | skip)
      | (go_at_call_of 13 (Value.agg #[Value.int IntKind.i64 n1, Value.slice c l1.length capc]); go_split_ands; refine (toGraph_any n1 _ l1 _ (by assumption) hm6).mono ?_; rintro e wc ⟨vc, rfl, hoc, hb⟩; first | (have hoa := OwnI.keep hoa (below_grown hb) (by simp)) | skip)
      | (go_at_call 31; go_split_ands; refine (specEqualGraphs n0 n1 _ _ l0 l1 _ hoa.ints hoc.ints hl9 hm9).mono ?_; rintro e wd ⟨r, rfl, hr, hb⟩))
  go_split_ands
  have hbE : Below w2.heap.size w2 wd := by assumption
  have HR := Lib.hid hr
  have A3 := Lib.hid (A2.out.keep (below_grown hbE) (by simp))
  have C3 := Lib.hid (C2.out.keep (below_grown hbE) (by simp))
  have F3 := Lib.hid (F2.out.trans (hbE.mono F2.out.size))
  clear hbE hr hb hoa hoc HS2 A2 C2 F2
  obtain ⟨c0, c1, cz⟩ := A3.out
  go_wp2_with fail
  refine (toGraph_any n0 _ l0 _ (HX.out.on F3.out) hl6).mono ?_
  rintro e w4 ⟨vx, rfl, ho, hb⟩
  obtain ⟨ax, capx, rfl, -, -⟩ := ho.ints.form
  obtain ⟨w5, hw5⟩ : ∃ w5, w5 = w4.alloc (.cells #[.int .i64 n0, .slice ax l0.length capx] 27) := ⟨_, rfl⟩
  have G5 : w4.grownBy w5 none := by rw [hw5]; exact grown_alloc _ _ _
  have X5 := Lib.hid (show BoxG w4.heap.size n0 (.slice ax l0.length capx) w5 by rw [hw5]; exact BoxG.new w4 _ n0 _ ⟨_, _, _, rfl⟩)
  have A5 := Lib.hid ((A3.out.keep (below_grown hb) (by simp)).keep G5 (by simp))
  have C5 := Lib.hid ((C3.out.keep (below_grown hb) (by simp)).keep G5 (by simp))
  have F5 := Lib.hid (show Below w.heap.size w w5 by rw [hw5]; exact (F3.out.trans (hb.mono F3.out.size)).alloc (Nat.le_trans F3.out.size hb.size) _)
  have OX5 := Lib.hid (ho.keep G5 (by simp))
  have C4 := C3.out.keep (below_grown hb) (by simp)
  clear ho hb c0 c1 cz A3 C3
  obtain ⟨d0, d1, dz⟩ := C4
  go_wp2_with fail
  rw [← hw5]
  clear hw5 G5 d0 d1 dz
  refine (toGraph_any n1 _ l1 _ (HY.out.on F5.out) hm6).mono ?_
  rintro e w6 ⟨vy, rfl, ho, hb⟩
  obtain ⟨ay, capy, rfl, -, -⟩ := ho.ints.form
  obtain ⟨w7, hw7⟩ : ∃ w7, w7 = w6.alloc (.cells #[.int .i64 n1, .slice ay l1.length capy] 27) := ⟨_, rfl⟩
  have G7 : w6.grownBy w7 none := by rw [hw7]; exact grown_alloc _ _ _
  have Y7 := Lib.hid (show BoxG w6.heap.size n1 (.slice ay l1.length capy) w7 by rw [hw7]; exact BoxG.new w6 _ n1 _ ⟨_, _, _, rfl⟩)
  have X6 := X5.out.keep (below_grown hb) (by simp)
  have X7 := Lib.hid (X6.keep G7 (by simp))
  have A7 := Lib.hid ((A5.out.keep (below_grown hb) (by simp)).keep G7 (by simp))
  have C7 := Lib.hid ((C5.out.keep (below_grown hb) (by simp)).keep G7 (by simp))
  have F7 := Lib.hid (show Below w.heap.size w w7 by rw [hw7]; exact (F5.out.trans (hb.mono F5.out.size)).alloc (Nat.le_trans F5.out.size hb.size) _)
  have OY7 := Lib.hid (ho.keep G7 (by simp))
  have OX7 := Lib.hid ((OX5.out.keep (below_grown hb) (by simp)).keep G7 (by simp))
  clear ho hb A5 C5 X5 OX5
  obtain ⟨d0, d1, dz⟩ := X6
  go_wp2_with fail
  rw [← hw7]
  clear hw7 G7 d0 d1 dz
  refine (implEqualGraphs n0 n1 _ _ l0 l1 _ OX7.out.ints OY7.out.ints hl9 hm9).mono ?_
  rintro e w8 ⟨r', rfl, hr', hb⟩
  have X8 := Lib.hid (X7.out.keep (below_grown hb) (by simp))
  have Y8 := Lib.hid (Y7.out.keep (below_grown hb) (by simp))
  have A8 := Lib.hid (A7.out.keep (below_grown hb) (by simp))
  have C8 := Lib.hid (C7.out.keep (below_grown hb) (by simp))
  have F8 := Lib.hid (F7.out.trans (hb.mono F7.out.size))
  have OX8 := Lib.hid (OX7.out.keep (below_grown hb) (by simp))
  have OY8 := Lib.hid (OY7.out.keep (below_grown hb) (by simp))
  obtain rfl : r' = r := by
    have h1 := HR.out
    cases r <;> cases r' <;> simp_all
  clear hr' hb HR X7 Y7 A7 C7 OX7 OY7
  have hne : (r' != r') = false := by simp
  have HS8 : Hid (∀ W, Below w8.heap.size w8 W → W.cell? ⟨w.heap.size, 0, none⟩ = some (.int .i64 n0) ∧ W.cell? ⟨w.heap.size, 1, none⟩ = some (.slice a l0.length cap) ∧
      W.cell? ⟨w4.heap.size, 0, none⟩ = some (.int .i64 n0) ∧ W.cell? ⟨w4.heap.size, 1, none⟩ = some (.slice ax l0.length capx) ∧ Ints W (.slice a l0.length cap) l0 ∧ Ints W (.slice ax l0.length capx) l0 ∧ Below w8.heap.size w8 W) := fun W hb => by
    have k1 := A8.out.keep (below_grown hb) (by simp)
    have k2 := X8.out.keep (below_grown hb) (by simp)
    exact ⟨k1.1, k1.2.1, k2.1, k2.2.1, HX.out.on (F8.out.trans (hb.mono F8.out.size)), (OX8.out.keep (below_grown hb) (by simp)).ints, hb⟩
  go_wp2
  go_region_held3 (fun w' => w'.cell? ⟨w.heap.size, 0, none⟩ = some (.int .i64 n0) ∧ w'.cell? ⟨w.heap.size, 1, none⟩ = some (.slice a l0.length cap) ∧
      w'.cell? ⟨w4.heap.size, 0, none⟩ = some (.int .i64 n0) ∧ w'.cell? ⟨w4.heap.size, 1, none⟩ = some (.slice ax l0.length capx) ∧ Ints w' (.slice a l0.length cap) l0 ∧ Ints w' (.slice ax l0.length capx) l0 ∧ Below w8.heap.size w8 w')
    (first | exact HS8.out _ (Below.refl _ _).drew | exact HS8.out _ (Below.refl _ _) | (go_split_ands; exact HS8.out _ (btrans (by assumption) hb)))
    (first
      | (go_at_call 13; go_split_ands; refine (toGraph_any n0 _ l0 _ (by assumption) hl6).mono ?_; rintro e wt8 ⟨v3, rfl, ho, hb⟩)
      | (go_at_call 15; go_split_ands; refine (eqGraph_same n0 _ _ l0 _ (by assumption) ho.ints hl9).mono ?_; rintro e w9 ⟨rfl, hb⟩))
  go_split_ands
  have hbE : Below w8.heap.size w8 w9 := by assumption
  have Y9 := Lib.hid (Y8.out.keep (below_grown hbE) (by simp))
  have C9 := Lib.hid (C8.out.keep (below_grown hbE) (by simp))
  have F9 := Lib.hid (F8.out.trans (hbE.mono F8.out.size))
  have OY9 := Lib.hid (OY8.out.keep (below_grown hbE) (by simp))
  clear hbE hb ho HS8 X8 Y8 A8 C8 F8 OX8 OY8
  have HS9 : Hid (∀ W, Below w9.heap.size w9 W → W.cell? ⟨w.heap.size + 1, 0, none⟩ = some (.int .i64 n1) ∧ W.cell? ⟨w.heap.size + 1, 1, none⟩ = some (.slice c l1.length capc) ∧
      W.cell? ⟨w6.heap.size, 0, none⟩ = some (.int .i64 n1) ∧ W.cell? ⟨w6.heap.size, 1, none⟩ = some (.slice ay l1.length capy) ∧ Ints W (.slice c l1.length capc) l1 ∧ Ints W (.slice ay l1.length capy) l1 ∧ Below w9.heap.size w9 W) := fun W hb => by
    have k1 := C9.out.keep (below_grown hb) (by simp)
    have k2 := Y9.out.keep (below_grown hb) (by simp)
    exact ⟨k1.1, k1.2.1, k2.1, k2.2.1, HY.out.on (F9.out.trans (hb.mono F9.out.size)), (OY9.out.keep (below_grown hb) (by simp)).ints, hb⟩
  go_wp2
  go_region_held3 (fun w' => w'.cell? ⟨w.heap.size + 1, 0, none⟩ = some (.int .i64 n1) ∧ w'.cell? ⟨w.heap.size + 1, 1, none⟩ = some (.slice c l1.length capc) ∧
      w'.cell? ⟨w6.heap.size, 0, none⟩ = some (.int .i64 n1) ∧ w'.cell? ⟨w6.heap.size, 1, none⟩ = some (.slice ay l1.length capy) ∧ Ints w' (.slice c l1.length capc) l1 ∧ Ints w' (.slice ay l1.length capy) l1 ∧ Below w9.heap.size w9 w')
    (first | exact HS9.out _ (Below.refl _ _).drew | exact HS9.out _ (Below.refl _ _) | (go_split_ands; exact HS9.out _ (btrans (by assumption) hb)))
    (first
      | (go_at_call 13; go_split_ands; refine (toGraph_any n1 _ l1 _ (by assumption) hm6).mono ?_; rintro e wt9 ⟨v3, rfl, ho, hb⟩)
      | (go_at_call 15; go_split_ands; refine (eqGraph_same n1 _ _ l1 _ (by assumption) ho.ints hm9).mono ?_; rintro e w10 ⟨rfl, hb⟩))
  go_split_ands
  have hbE : Below w9.heap.size w9 w10 := by assumption
  have F10 := Lib.hid (F9.out.trans (hbE.mono F9.out.size))
  go_wp2
  go_ret
  exact ⟨rfl, F10.out⟩

set_option maxHeartbeats 1000000 in
theorem walk (n0 : Int) (v0 : Value) (l0 : List Int) (n1 : Int) (v1 : Value) (l1 : List Int) (w : World) (w0 : (Lit.int .i64 n0).wf = true) (x0 : Ints w v0 l0) (w1 : (Lit.int .i64 n1).wf = true) (x1 : Ints w v1 l1) : Calls Try.prog 9 #[.agg #[.int .i64 n0, v0], .agg #[.int .i64 n1, v1]] w fun e w' => e = .returned (.bool true) ∧ Below w.heap.size w w' := by
  by_cases hbig : (l0.length : Int) + l1.length ≤ 1048576
  · exact core n0 v0 l0 n1 v1 l1 w w0 x0 w1 x1 hbig
  · obtain ⟨a, cap, rfl, -, -⟩ := x0.form
    obtain ⟨c, capc, rfl, -, -⟩ := x1.form
    have F0 := Lib.hid (((Below.refl _ w).alloc (Nat.le_refl _) (.cells #[.int .i64 n0, .slice a l0.length cap] 24)).alloc (by simp) (.cells #[.int .i64 n1, .slice c l1.length capc] 24))
    have C0 := Lib.hid (BoxG.new (w.alloc (.cells #[.int .i64 n0, .slice a l0.length cap] 24)) 24 n1 (.slice c l1.length capc) ⟨_, _, _, rfl⟩)
    rw [World.size_alloc] at C0
    have HX := Lib.hid x0
    have HY := Lib.hid x1
    clear x0 x1 w0 w1
    by_cases hb1 : 1048576 < (l0.length : Int)
    · go_enter Try.func9, Try.ntmps9
      go_wp2_with fail
      refine (szGraph_over n0 _ l0 _ _ (HX.out.on F0.out) hb1 (by omega)).mono ?_
      rintro e w1 ⟨rfl, hb⟩
      have HB := Lib.hid (F0.out.trans (hb.mono F0.out.size))
      clear hb
      go_wp2
      go_ret
      exact ⟨rfl, HB.out⟩
    · have hp : (0 : Int) ≤ 1048576 - l0.length := by omega
      have h2 : (1048576 : Int) - l0.length < l1.length := by omega
      go_enter Try.func9, Try.ntmps9
      go_wp2_with fail
      refine (szGraph_fits n0 _ l0 _ _ (HX.out.on F0.out) (by omega) (by omega)).mono ?_
      rintro e w1 ⟨rfl, hb⟩
      have HB := Lib.hid (F0.out.trans (hb.mono F0.out.size))
      obtain ⟨q0, q1, qz⟩ := C0.out.keep (below_grown hb) (by simp)
      clear hb
      go_wp2_with fail
      refine (szGraph_over n1 _ l1 _ _ (HY.out.on HB.out) h2 hp).mono ?_
      rintro e w2 ⟨rfl, hb⟩
      have HB2 := Lib.hid (HB.out.trans (hb.mono HB.out.size))
      clear hb q0 q1 qz
      go_wp2
      go_ret
      exact ⟨rfl, HB2.out⟩

set_option maxRecDepth 100000 in
theorem lifted (os : Os) (started : os.Started) (H : Type) (enc : TypeId × Value → H) :
    ReturnsInHanded {} Try.checked os 9 .any (Rows.fnExactEqualGraphsSpec.pre6 enc Try.prog Try.f9 Rows.fnExactEqualGraphsRow.domain false) (Rows.fnExactEqualGraphsSpec.post enc Try.prog Try.f9 false true false false) := by
  refine returnsInHanded_of_change (C := Try.checked) own started (by kernel_rfl) Try.func9
    (ChangeSpec.witness6 (enc := enc) (C := Try.checked) false ⟨#[], #[.agg #[.int .i64 0, .slice none 0 0], .agg #[.int .i64 0, .slice none 0 0]], []⟩ 8 (by kernel_rfl) (by kernel_rfl) (by kernel_rfl) (by kernel_rfl)) ?_
  intro W base args ds gs before hval0 hW hcnd _
  have hval : ∀ (j : Nat) t v, Try.f9.params[j]? = some t → args[j]? = some v → Value.okWide Try.prog W .any base t v := hval0
  have hW' := hW
  obtain ⟨p, q, hA0, hV, rfl, hfz, hnd⟩ := hW
  have hA : DataW.TrodAll enc Try.prog W 0 (fun _ => true) true Try.f9.params.toList args.toList ds p := hA0
  rw [Try.params9] at hA hval
  obtain ⟨v0, vs0, d0, ds0, p0, q0, hargs, rfl, rfl, h0, r0⟩ := trodAll_cons hA
  obtain ⟨v1, vs1, d1, ds1, p1, q1, rfl, rfl, rfl, h1, r1⟩ := trodAll_cons r0
  obtain ⟨rfl, rfl, rfl⟩ := trodAll_nil r1
  obtain rfl : args = #[v0, v1] := by cases args; simp_all
  obtain ⟨rfl, rfl⟩ := trodVars_none hV
  have k0 := h0
  obtain ⟨n0, u0, l0, rfl, w0, x0⟩ := open_graph Try.underlying24 (by kernel_rfl) (by kernel_rfl) Try.underlying3 Try.underlying22 Try.underlying3 (by kernel_rfl) (hval 0 24 v0 rfl rfl) h0
  have k1 := h1
  obtain ⟨n1, u1, l1, rfl, w1, x1⟩ := open_graph Try.underlying24 (by kernel_rfl) (by kernel_rfl) Try.underlying3 Try.underlying22 Try.underlying3 (by kernel_rfl) (hval 1 24 v1 rfl rfl) h1
  clear hA0 hval0
  refine (walk n0 u0 l0 n1 u1 l1 W w0 x0 w1 x1).mono fun e W' ⟨he, bel⟩ => ?_
  subst he
  exact ⟨_, rfl, _, _, _, [], _, [], hW', (trodAll_cons_mk (shut_bool Try.underlying4 _) trodAll_mk0), (trodAll_cons_mk (Below.trod laidOut (by kernel_rfl) (of_decide_eq_true (by kernel_rfl)) k0 bel (lt_of_trod k0)) (trodAll_cons_mk (Below.trod laidOut (by kernel_rfl) (of_decide_eq_true (by kernel_rfl)) k1 bel (lt_of_trod k1)) trodAll_mk0)), rfl, bel.frame _, fun h => by cases h⟩

theorem proved : Rows.FnExactEqualGraphsSaid :=
  OpenClaim.holds_of_wide 9 Try.f9 rfl rfl rfl rfl rfl rfl rfl ⟨rfl, rfl, rfl, rfl, rfl⟩ rfl rfl rfl rfl rfl (by kernel_rfl) Try.func9 (by kernel_rfl)
    (of_decide_eq_true (by kernel_rfl)) (by unfold Func.isWrapper; first | (rw [if_pos (by decide +kernel)]; kernel_rfl) | (rw [if_neg (by decide +kernel)]; exact ⟨rfl, rfl⟩))
    (fun os started H enc _ => lifted os started H enc)
#print axioms proved
end Go.Proofs.Ytkadihfbbmhebaa.fnExactEqualGraphs
