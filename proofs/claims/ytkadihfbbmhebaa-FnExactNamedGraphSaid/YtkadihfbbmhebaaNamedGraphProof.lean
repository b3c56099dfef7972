/- For every name and every number, NamedGraph answers as its specification does and its answer owns its memory. -/
import Derived.Test.YtkadihfbbmhebaaRows
import Derived.Test.YtkadihfbbmhebaaSh
import Derived.Test.YtkadihfbbmhebaaN2
import Derived.Test.YtkadihfbbmhebaaGl
import Derived.WalkKit
import Derived.Lib.LaidTab
import Derived.ProofKit
import Derived.LaidMore
import Derived.OpenShut
import Derived.ShutString
import Derived.ChangeOld
import Derived.Below
import Derived.Stop.Joined
import Derived.Stop.LaidErr
namespace Go.Proofs.Ytkadihfbbmhebaa.fnExactNamedGraph
open Go.ChangeShapes Go.WideShapes Go.ChangeAt Go.RowKit
open Go.ChangeMaps (open_string shut_string)
set_option linter.unusedVariables false

theorem own : ownKnob Try.prog.godebug = none := by kernel_rfl

set_option maxHeartbeats 4000000 in
set_option maxRecDepth 100000 in
theorem core (a0 : ByteArray) (a1 : Int) (w : World) (w0 : a0.size ≤ maxLen) (w1 : (Lit.int .i64 a1).wf = true) (n' : Int) (l' : List Int) (r1 : Bool) (hl' : l'.length ≤ 1048576) (hs0 : (a0.size : Int) ≤ 1048576)
    (hs : ∀ (W : World), Calls Try.prog 33 #[.string a0, .int .i64 a1] W (fun e W' => ∃ vr, e = .returned (.tuple #[.agg #[.int .i64 n', vr], .bool r1]) ∧ OwnI W.heap.size W' vr l' ∧ Below W.heap.size W W'))
    (hi : ∀ (W : World), Calls Try.prog 34 #[.string a0, .int .i64 a1] W (fun e W' => ∃ vr, e = .returned (.tuple #[.agg #[.int .i64 n', vr], .bool r1]) ∧ OwnI W.heap.size W' vr l' ∧ Below W.heap.size W W')) :
    Calls Try.prog 10 #[.string a0, .int .i64 a1] w fun e w' => e = .returned (.bool true) ∧ Below w.heap.size w w' := by
  have HS := Lib.hid hs
  have HI := Lib.hid hi
  clear hs hi  w0 w1
  have hne1 : (r1 != r1) = false := by simp
  have hd0 : decide (1048576 < (a0.size : Int)) = false := by simp; omega
  have hl9' : l'.length ≤ 100000000 := by omega
  have F0 := Lib.hid (Below.refl w.heap.size w)
  go_enter Try.func10, Try.ntmps10
  go_wp2_with fail
  refine (HS.out _  ).mono ?_
  rintro e w1 ⟨vw, rfl, ho, hb⟩
  have F1 := Lib.hid (F0.out.trans (hb.mono F0.out.size))
  have hz0 : w.heap.size ≤ w1.heap.size := hb.size
  obtain ⟨aW, capW, rfl, -, -⟩ := ho.ints.form
  have WL := Lib.hid ho.lt
  have OW1 := Lib.hid ho
  clear F0 hb ho
  obtain ⟨w2, hw2⟩ : ∃ w2, w2 = w1.alloc (.cells #[.int .i64 n', .slice aW l'.length capW] 27) := ⟨_, rfl⟩
  have G2 : w1.grownBy w2 none := by rw [hw2]; exact grown_alloc _ _ _
  have hz1 : w1.heap.size < w2.heap.size := by rw [hw2]; simp
  have OW2 := Lib.hid (OW1.out.keep G2 (by simp))
  have F2 := Lib.hid (show Below w.heap.size w w2 by rw [hw2]; exact F1.out.alloc F1.out.size _)
  have BW2 := Lib.hid (show BoxG w1.heap.size n' (.slice aW l'.length capW) w2 by rw [hw2]; exact BoxG.new w1 _ n' _ ⟨_, _, _, rfl⟩)
  go_wp2_with fail
  rw [← hw2]
  clear hw2 G2 OW1 F1
  refine (HI.out _  ).mono ?_
  rintro e w3 ⟨vg, rfl, ho, hb⟩
  have BW3 := Lib.hid (BW2.out.keep (below_grown hb) (by simp))
  have OW3 := Lib.hid (OW2.out.keep (below_grown hb) (by simp))
  have F3 := Lib.hid (F2.out.trans (hb.mono F2.out.size))
  have hz2 : w2.heap.size ≤ w3.heap.size := hb.size
  obtain ⟨aG, capG, rfl, -, -⟩ := ho.ints.form
  have GL := Lib.hid ho.lt
  have OG3 := Lib.hid ho
  clear BW2 OW2 F2 hb ho
  obtain ⟨w4, hw4⟩ : ∃ w4, w4 = w3.alloc (.cells #[.int .i64 n', .slice aG l'.length capG] 27) := ⟨_, rfl⟩
  have G4 : w3.grownBy w4 none := by rw [hw4]; exact grown_alloc _ _ _
  have hz3 : w3.heap.size < w4.heap.size := by rw [hw4]; simp
  obtain ⟨cW0, cW1, cWz⟩ := BW3.out
  have BW4 := Lib.hid (BW3.out.keep G4 (by simp))
  have OW4 := Lib.hid (OW3.out.keep G4 (by simp))
  have OG4 := Lib.hid (OG3.out.keep G4 (by simp))
  have F4 := Lib.hid (show Below w.heap.size w w4 by rw [hw4]; exact F3.out.alloc F3.out.size _)
  have BG4 := Lib.hid (show BoxG w3.heap.size n' (.slice aG l'.length capG) w4 by rw [hw4]; exact BoxG.new w3 _ n' _ ⟨_, _, _, rfl⟩)
  go_wp2_with fail
  rw [← hw4]
  clear hw4 G4 BW3 OW3 OG3 F3 cW0 cW1 cWz
  refine (eqGraph_same n' _ _ l' _ OG4.out.ints OW4.out.ints hl9').mono ?_
  rintro e w5 ⟨rfl, hb⟩
  have BW5 := Lib.hid (BW4.out.keep (below_grown hb) (by simp))
  have BG5 := Lib.hid (BG4.out.keep (below_grown hb) (by simp))
  have OW5 := Lib.hid (OW4.out.keep (below_grown hb) (by simp))
  have OG5 := Lib.hid (OG4.out.keep (below_grown hb) (by simp))
  have F5 := Lib.hid (F4.out.trans (hb.mono F4.out.size))
  have hz4 : w4.heap.size ≤ w5.heap.size := hb.size
  clear BW4 BG4 OW4 OG4 F4 hb
  obtain ⟨cG0, cG1, cGz⟩ := BG5.out
  go_wp2_with fail
  refine (markGraph_any _ n' _ l' 1 _ OG5.out hl9' (by omega) (by omega)).mono ?_
  rintro e w6 ⟨rfl, ho, hg⟩
  have BW6 := Lib.hid (BW5.out.keep hg (fun h => by have := GL.out _ h; omega))
  have BG6 := Lib.hid (BG5.out.keep hg (fun h => by have := GL.out _ h; omega))
  have OW6 := Lib.hid (OW5.out.keep hg (fun k hk j hj => by have := GL.out _ hk; have := WL.out _ hj; omega))
  have F6 := Lib.hid (F5.out.grown hg F5.out.size (fun k hk => by have := (GL.out _ hk).1; omega))
  have OG6 := Lib.hid ho
  have hz5 : w5.heap.size ≤ w6.heap.size := hg.size
  clear BW5 BG5 OW5 OG5 F5 hg ho cG0 cG1 cGz
  obtain ⟨cG0, cG1, cGz⟩ := BG6.out
  go_wp2_with fail
  refine (heldGraph_any n' _ 1 l'.length _ OG6.out.ints hl9' (by omega) (by omega)).mono ?_
  rintro e w7 ⟨rfl, hb⟩
  have BW7 := Lib.hid (BW6.out.keep (below_grown hb) (by simp))
  have BG7 := Lib.hid (BG6.out.keep (below_grown hb) (by simp))
  have OW7 := Lib.hid (OW6.out.keep (below_grown hb) (by simp))
  have OG7 := Lib.hid (OG6.out.keep (below_grown hb) (by simp))
  have F7 := Lib.hid (F6.out.trans (hb.mono F6.out.size))
  have hz6 : w6.heap.size ≤ w7.heap.size := hb.size
  clear BW6 BG6 OW6 OG6 F6 hb cG0 cG1 cGz
  have hk' : decide ((1 : Int) + l'.length < 0) = false := by simp; omega
  have hq : ((1 : Int) + l'.length != 1 + l'.length) = false := by simp
  go_wp2_with fail
  refine (HI.out _  ).mono ?_
  rintro e w8 ⟨vh, rfl, ho, hb⟩
  have BW8 := Lib.hid (BW7.out.keep (below_grown hb) (by simp))
  have BG8 := Lib.hid (BG7.out.keep (below_grown hb) (by simp))
  have OW8 := Lib.hid (OW7.out.keep (below_grown hb) (by simp))
  have OG8 := Lib.hid (OG7.out.keep (below_grown hb) (by simp))
  have F8 := Lib.hid (F7.out.trans (hb.mono F7.out.size))
  have hz7 : w7.heap.size ≤ w8.heap.size := hb.size
  obtain ⟨aH, capH, rfl, -, -⟩ := ho.ints.form
  have HL := Lib.hid ho.lt
  have OH8 := Lib.hid ho
  clear BW7 BG7 OW7 OG7 F7 hb ho
  obtain ⟨w9, hw9⟩ : ∃ w9, w9 = w8.alloc (.cells #[.int .i64 n', .slice aH l'.length capH] 27) := ⟨_, rfl⟩
  have G9 : w8.grownBy w9 none := by rw [hw9]; exact grown_alloc _ _ _
  have hz8 : w8.heap.size < w9.heap.size := by rw [hw9]; simp
  obtain ⟨cW0, cW1, cWz⟩ := BW8.out
  have BW9 := Lib.hid (BW8.out.keep G9 (by simp))
  have BG9 := Lib.hid (BG8.out.keep G9 (by simp))
  have OW9 := Lib.hid (OW8.out.keep G9 (by simp))
  have OG9 := Lib.hid (OG8.out.keep G9 (by simp))
  have OH9 := Lib.hid (OH8.out.keep G9 (by simp))
  have F9 := Lib.hid (show Below w.heap.size w w9 by rw [hw9]; exact F8.out.alloc F8.out.size _)
  have BH9 := Lib.hid (show BoxG w8.heap.size n' (.slice aH l'.length capH) w9 by rw [hw9]; exact BoxG.new w8 _ n' _ ⟨_, _, _, rfl⟩)
  go_wp2_with fail
  rw [← hw9]
  clear hw9 G9 BW8 BG8 OW8 OG8 OH8 F8 cW0 cW1 cWz
  refine (eqGraph_same n' _ _ l' _ OH9.out.ints OW9.out.ints hl9').mono ?_
  rintro e w10 ⟨rfl, hb⟩
  have BW10 := Lib.hid (BW9.out.keep (below_grown hb) (by simp))
  have BG10 := Lib.hid (BG9.out.keep (below_grown hb) (by simp))
  have BH10 := Lib.hid (BH9.out.keep (below_grown hb) (by simp))
  have OW10 := Lib.hid (OW9.out.keep (below_grown hb) (by simp))
  have OG10 := Lib.hid (OG9.out.keep (below_grown hb) (by simp))
  have OH10 := Lib.hid (OH9.out.keep (below_grown hb) (by simp))
  have F10 := Lib.hid (F9.out.trans (hb.mono F9.out.size))
  have hz9 : w9.heap.size ≤ w10.heap.size := hb.size
  clear BW9 BG9 BH9 OW9 OG9 OH9 F9 hb
  obtain ⟨cG0, cG1, cGz⟩ := BG10.out
  go_wp2_with fail
  refine (heldGraph_any n' _ 1 l'.length _ OG10.out.ints hl9' (by omega) (by omega)).mono ?_
  rintro e w11 ⟨rfl, hb⟩
  have BW11 := Lib.hid (BW10.out.keep (below_grown hb) (by simp))
  have BG11 := Lib.hid (BG10.out.keep (below_grown hb) (by simp))
  have OW11 := Lib.hid (OW10.out.keep (below_grown hb) (by simp))
  have OG11 := Lib.hid (OG10.out.keep (below_grown hb) (by simp))
  have F11 := Lib.hid (F10.out.trans (hb.mono F10.out.size))
  have hz10 : w10.heap.size ≤ w11.heap.size := hb.size
  clear BW10 BG10 OW10 OG10 F10 hb cG0 cG1 cGz
  go_wp2
  go_ret
  exact ⟨rfl, F11.out⟩

set_option maxHeartbeats 1000000 in
theorem walk (a0 : ByteArray) (a1 : Int) (w : World) (w0 : a0.size ≤ maxLen) (w1 : (Lit.int .i64 a1).wf = true) : Calls Try.prog 10 #[.string a0, .int .i64 a1] w fun e w' => e = .returned (.bool true) ∧ Below w.heap.size w w' := by
  by_cases hb0 : 1048576 < (a0.size : Int)
  · have hd : decide (1048576 < (a0.size : Int)) = true := by simp [hb0]
    clear w0 
    go_enter Try.func10, Try.ntmps10
    go_wp2
    go_ret
    exact ⟨rfl, Below.refl _ _⟩
  exact core a0 a1 w w0 w1 (namN a0.toList a1) (namL a0.toList a1) (decide (NamOk a0.toList a1)) (by have := namL_length a0.toList a1; omega) (by omega)
    (fun W => specNamed a0 a1 W)
    (fun W => implNamed a0 a1 W)

set_option maxRecDepth 100000 in
theorem lifted (os : Os) (started : os.Started) (H : Type) (enc : TypeId × Value → H) :
    ReturnsInHanded {} Try.checked os 10 .any (Rows.fnExactNamedGraphSpec.pre6 enc Try.prog Try.f10 Rows.fnExactNamedGraphRow.domain false) (Rows.fnExactNamedGraphSpec.post enc Try.prog Try.f10 false true false false) := by
  refine returnsInHanded_of_change (C := Try.checked) own started (by kernel_rfl) Try.func10
    (ChangeSpec.witness6 (enc := enc) (C := Try.checked) false ⟨#[], #[.string ByteArray.empty, .int .i64 0], []⟩ 8 (by kernel_rfl) (by kernel_rfl) (by kernel_rfl) (by kernel_rfl)) ?_
  intro W base args ds gs before hval0 hW hcnd _
  have hval : ∀ (j : Nat) t v, Try.f10.params[j]? = some t → args[j]? = some v → Value.okWide Try.prog W .any base t v := hval0
  have hW' := hW
  obtain ⟨p, q, hA0, hV, rfl, hfz, hnd⟩ := hW
  have hA : DataW.TrodAll enc Try.prog W 0 (fun _ => true) true Try.f10.params.toList args.toList ds p := hA0
  rw [Try.params10] at hA hval
  obtain ⟨v0, vs0, d0, ds0, p0, q0, hargs, rfl, rfl, h0, r0⟩ := trodAll_cons hA
  obtain ⟨v1, vs1, d1, ds1, p1, q1, rfl, rfl, rfl, h1, r1⟩ := trodAll_cons r0
  obtain ⟨rfl, rfl, rfl⟩ := trodAll_nil r1
  obtain rfl : args = #[v0, v1] := by cases args; simp_all
  obtain ⟨rfl, rfl⟩ := trodVars_none hV
  obtain ⟨a0, rfl, rfl, rfl, w0⟩ := open_string Try.underlying9 (hval 0 9 v0 rfl rfl) h0
  obtain ⟨a1, rfl, rfl, rfl, w1⟩ := open_int Try.underlying3 (hval 1 3 v1 rfl rfl) h1
  clear hA0 hval0
  simp only [List.append_nil] at hW'
  refine (walk a0 a1 W w0 w1).mono fun e W' ⟨he, bel⟩ => ?_
  subst he
  exact ⟨_, rfl, _, _, _, [], [], [], hW', (trodAll_cons_mk (shut_bool Try.underlying4 _) trodAll_mk0), (trodAll_cons_mk (shut_string Try.underlying9 w0) (trodAll_cons_mk (shut_int Try.underlying3 w1) trodAll_mk0)), rfl, bel.frame _, fun h => by cases h⟩

theorem proved : Rows.FnExactNamedGraphSaid :=
  OpenClaim.holds_of_wide 10 Try.f10 rfl rfl rfl rfl rfl rfl rfl ⟨rfl, rfl, rfl, rfl, rfl⟩ rfl rfl rfl rfl rfl (by kernel_rfl) Try.func10 (by kernel_rfl)
    (of_decide_eq_true (by kernel_rfl)) (by unfold Func.isWrapper; first | (rw [if_pos (by decide +kernel)]; kernel_rfl) | (rw [if_neg (by decide +kernel)]; exact ⟨rfl, rfl⟩))
    (fun os started H enc _ => lifted os started H enc)
#print axioms proved
end Go.Proofs.Ytkadihfbbmhebaa.fnExactNamedGraph
