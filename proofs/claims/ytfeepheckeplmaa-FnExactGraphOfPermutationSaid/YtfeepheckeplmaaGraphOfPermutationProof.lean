/- For every list, GraphOfPermutation answers as its specification does, writes into no argument, and its answer owns its memory. -/
import Derived.Test.YtfeepheckeplmaaRows
import Derived.Test.YtfeepheckeplmaaSh
import Derived.Test.YtfeepheckeplmaaM8
import Derived.Test.YtfeepheckeplmaaGl
import Derived.WalkKit
import Derived.Lib.LaidTab
import Derived.ProofKit
import Derived.LaidMore
import Derived.OpenShut
import Derived.ShutString
import Derived.ChangeOld
import Derived.Below
import Derived.Stop.Joined
import Derived.Stop.LaidErr
namespace Go.Proofs.Ytfeepheckeplmaa.fnExactGraphOfPermutation
open Go.ChangeShapes Go.WideShapes Go.ChangeAt Go.RowKit
open Go.ChangeMaps (open_string shut_string)
set_option linter.unusedVariables false

theorem own : ownKnob Try.prog.godebug = none := by kernel_rfl

theorem laidOut : laidOutB Try.prog = true := by kernel_rfl

set_option maxHeartbeats 4000000 in
set_option maxRecDepth 100000 in
theorem core (v0 : Value) (l0 : List Int) (w : World) (w0 : Ints w v0 l0) (n' : Int) (l' : List Int) (r1 : Bool) (hl' : l'.length ≤ 1048576) (hs0 : (l0.length : Int) ≤ 1048576)
    (hs : ∀ (W : World) (u0 : Value), Ints W u0 l0 → (u0 = .slice none 0 0 ∨ ∃ ad cap, u0 = .slice (some ad) l0.length cap) → Calls Try.prog 42 #[u0] W (fun e W' => ∃ vr, e = .returned (.tuple #[.agg #[.int .i64 n', vr], .bool r1]) ∧ OwnI W.heap.size W' vr l' ∧ Below W.heap.size W W'))
    (hi : ∀ (W : World) (u0 : Value), Ints W u0 l0 → (u0 = .slice none 0 0 ∨ ∃ ad cap, u0 = .slice (some ad) l0.length cap) → Calls Try.prog 43 #[u0] W (fun e W' => ∃ vr, e = .returned (.tuple #[.agg #[.int .i64 n', vr], .bool r1]) ∧ OwnI W.heap.size W' vr l' ∧ Below W.heap.size W W')) :
    Calls Try.prog 14 #[v0] w fun e w' => e = .returned (.bool true) ∧ Below w.heap.size w w' := by
  obtain ⟨a0, cap0, rfl, -, hm0⟩ := w0.form
  have HX0 := Lib.hid w0
  unfold maxLen at hm0
  have HS := Lib.hid hs
  have HI := Lib.hid hi
  clear hs hi w0 
  have hne1 : (r1 != r1) = false := by simp
  have hp0 : (0 : Int) ≤ 1048576 - l0.length := by omega
  have hl90 : l0.length ≤ 100000000 := by omega
  have hl60 : l0.length ≤ 1048576 := by omega
  have hd0 : decide (1048576 < (l0.length : Int)) = false := by simp; omega
  have hl9' : l'.length ≤ 100000000 := by omega
  have F0 := Lib.hid (Below.refl w.heap.size w)
  go_enter Try.func14, Try.ntmps14
  go_wp2_with fail
  refine (toIntS_any _ l0 _ (HX0.out.on F0.out) hl60).mono ?_
  rintro e w1 ⟨s0, rfl, ho, hb⟩
  have F1 := Lib.hid (F0.out.trans (hb.mono F0.out.size))
  have hz0 : w.heap.size ≤ w1.heap.size := hb.size
  have OT01 := Lib.hid ho
  clear F0 hb ho
  go_wp2_with fail
  refine (HS.out _ _ OT01.out.ints OT01.out.nilform).mono ?_
  rintro e w2 ⟨vw, rfl, ho, hb⟩
  have OT02 := Lib.hid (OT01.out.keep (below_grown hb) (by simp))
  have F2 := Lib.hid (F1.out.trans (hb.mono F1.out.size))
  have hz1 : w1.heap.size ≤ w2.heap.size := hb.size
  obtain ⟨aW, capW, rfl, -, -⟩ := ho.ints.form
  have WL := Lib.hid ho.lt
  have OW2 := Lib.hid ho
  clear OT01 F1 hb ho
  obtain ⟨w3, hw3⟩ : ∃ w3, w3 = w2.alloc (.cells #[.int .i64 n', .slice aW l'.length capW] 27) := ⟨_, rfl⟩
  have G3 : w2.grownBy w3 none := by rw [hw3]; exact grown_alloc _ _ _
  have hz2 : w2.heap.size < w3.heap.size := by rw [hw3]; simp
  have OW3 := Lib.hid (OW2.out.keep G3 (by simp))
  have F3 := Lib.hid (show Below w.heap.size w w3 by rw [hw3]; exact F2.out.alloc F2.out.size _)
  have BW3 := Lib.hid (show BoxG w2.heap.size n' (.slice aW l'.length capW) w3 by rw [hw3]; exact BoxG.new w2 _ n' _ ⟨_, _, _, rfl⟩)
  go_wp2_with fail
  rw [← hw3]
  clear hw3 G3 OW2 F2
  refine (toIntS_any _ l0 _ (HX0.out.on F3.out) hl60).mono ?_
  rintro e w4 ⟨vx0, rfl, ho, hb⟩
  have BW4 := Lib.hid (BW3.out.keep (below_grown hb) (by simp))
  have OW4 := Lib.hid (OW3.out.keep (below_grown hb) (by simp))
  have F4 := Lib.hid (F3.out.trans (hb.mono F3.out.size))
  have hz3 : w3.heap.size ≤ w4.heap.size := hb.size
  have X0L := Lib.hid ho.lt
  have OX04 := Lib.hid ho
  clear BW3 OW3 F3 hb ho
  go_wp2_with fail
  refine (HI.out _ _ OX04.out.ints OX04.out.nilform).mono ?_
  rintro e w5 ⟨vg, rfl, ho, hb⟩
  have BW5 := Lib.hid (BW4.out.keep (below_grown hb) (by simp))
  have OW5 := Lib.hid (OW4.out.keep (below_grown hb) (by simp))
  have OX05 := Lib.hid (OX04.out.keep (below_grown hb) (by simp))
  have F5 := Lib.hid (F4.out.trans (hb.mono F4.out.size))
  have hz4 : w4.heap.size ≤ w5.heap.size := hb.size
  obtain ⟨aG, capG, rfl, -, -⟩ := ho.ints.form
  have GL := Lib.hid ho.lt
  have OG5 := Lib.hid ho
  clear BW4 OW4 OX04 F4 hb ho
  obtain ⟨w6, hw6⟩ : ∃ w6, w6 = w5.alloc (.cells #[.int .i64 n', .slice aG l'.length capG] 27) := ⟨_, rfl⟩
  have G6 : w5.grownBy w6 none := by rw [hw6]; exact grown_alloc _ _ _
  have hz5 : w5.heap.size < w6.heap.size := by rw [hw6]; simp
  obtain ⟨cW0, cW1, cWz⟩ := BW5.out
  have BW6 := Lib.hid (BW5.out.keep G6 (by simp))
  have OW6 := Lib.hid (OW5.out.keep G6 (by simp))
  have OX06 := Lib.hid (OX05.out.keep G6 (by simp))
  have OG6 := Lib.hid (OG5.out.keep G6 (by simp))
  have F6 := Lib.hid (show Below w.heap.size w w6 by rw [hw6]; exact F5.out.alloc F5.out.size _)
  have BG6 := Lib.hid (show BoxG w5.heap.size n' (.slice aG l'.length capG) w6 by rw [hw6]; exact BoxG.new w5 _ n' _ ⟨_, _, _, rfl⟩)
  go_wp2_with fail
  rw [← hw6]
  clear hw6 G6 BW5 OW5 OX05 OG5 F5 cW0 cW1 cWz
  refine (eqGraph_same n' _ _ l' _ OG6.out.ints OW6.out.ints hl9').mono ?_
  rintro e w7 ⟨rfl, hb⟩
  have BW7 := Lib.hid (BW6.out.keep (below_grown hb) (by simp))
  have BG7 := Lib.hid (BG6.out.keep (below_grown hb) (by simp))
  have OW7 := Lib.hid (OW6.out.keep (below_grown hb) (by simp))
  have OX07 := Lib.hid (OX06.out.keep (below_grown hb) (by simp))
  have OG7 := Lib.hid (OG6.out.keep (below_grown hb) (by simp))
  have F7 := Lib.hid (F6.out.trans (hb.mono F6.out.size))
  have hz6 : w6.heap.size ≤ w7.heap.size := hb.size
  clear BW6 BG6 OW6 OX06 OG6 F6 hb
  go_wp2_with fail
  refine (toIntS_any _ l0 _ (HX0.out.on F7.out) hl60).mono ?_
  rintro e w8 ⟨vy0, rfl, ho, hb⟩
  have BW8 := Lib.hid (BW7.out.keep (below_grown hb) (by simp))
  have BG8 := Lib.hid (BG7.out.keep (below_grown hb) (by simp))
  have OW8 := Lib.hid (OW7.out.keep (below_grown hb) (by simp))
  have OX08 := Lib.hid (OX07.out.keep (below_grown hb) (by simp))
  have OG8 := Lib.hid (OG7.out.keep (below_grown hb) (by simp))
  have F8 := Lib.hid (F7.out.trans (hb.mono F7.out.size))
  have hz7 : w7.heap.size ≤ w8.heap.size := hb.size
  have OT08 := Lib.hid ho
  clear BW7 BG7 OW7 OX07 OG7 F7 hb ho
  go_wp2_with fail
  refine (eqIntS_same _ _ l0 _ OX08.out.ints OT08.out.ints hl90).mono ?_
  rintro e w9 ⟨rfl, hb⟩
  have BW9 := Lib.hid (BW8.out.keep (below_grown hb) (by simp))
  have BG9 := Lib.hid (BG8.out.keep (below_grown hb) (by simp))
  have OW9 := Lib.hid (OW8.out.keep (below_grown hb) (by simp))
  have OX09 := Lib.hid (OX08.out.keep (below_grown hb) (by simp))
  have OG9 := Lib.hid (OG8.out.keep (below_grown hb) (by simp))
  have OT09 := Lib.hid (OT08.out.keep (below_grown hb) (by simp))
  have F9 := Lib.hid (F8.out.trans (hb.mono F8.out.size))
  have hz8 : w8.heap.size ≤ w9.heap.size := hb.size
  clear BW8 BG8 OW8 OX08 OG8 OT08 F8 hb
  go_wp2_with fail
  refine (markIntS_any _ _ l0 (1 : Int) _ OX09.out hl90 (by omega) (by omega)).mono ?_
  rintro e w10 ⟨rfl, ho, hg⟩
  have BW10 := Lib.hid (BW9.out.keep hg (fun h => by have := X0L.out _ h; omega))
  have BG10 := Lib.hid (BG9.out.keep hg (fun h => by have := X0L.out _ h; omega))
  have OW10 := Lib.hid (OW9.out.keep hg (fun k hk j hj => by have := X0L.out _ hk; have := WL.out _ hj; omega))
  have OG10 := Lib.hid (OG9.out.keep hg (fun k hk j hj => by have := X0L.out _ hk; have := GL.out _ hj; omega))
  have F10 := Lib.hid (F9.out.grown hg F9.out.size (fun k hk => by have := (X0L.out _ hk).1; omega))
  have hz9 : w9.heap.size ≤ w10.heap.size := hg.size
  clear BW9 BG9 OW9 OX09 OG9 F9 hg ho
  have hk : decide ((1 + (l0.length : Int)) < 0) = false := by simp; omega
  obtain ⟨cG0, cG1, cGz⟩ := BG10.out
  obtain ⟨cW0, cW1, cWz⟩ := BW10.out
  go_wp2_with fail
  refine (eqGraph_same n' _ _ l' _ OG10.out.ints OW10.out.ints hl9').mono ?_
  rintro e w11 ⟨rfl, hb⟩
  have BW11 := Lib.hid (BW10.out.keep (below_grown hb) (by simp))
  have BG11 := Lib.hid (BG10.out.keep (below_grown hb) (by simp))
  have OW11 := Lib.hid (OW10.out.keep (below_grown hb) (by simp))
  have OG11 := Lib.hid (OG10.out.keep (below_grown hb) (by simp))
  have F11 := Lib.hid (F10.out.trans (hb.mono F10.out.size))
  have hz10 : w10.heap.size ≤ w11.heap.size := hb.size
  clear BW10 BG10 OW10 OG10 F10 hb cG0 cG1 cGz cW0 cW1 cWz
  obtain ⟨cG0, cG1, cGz⟩ := BG11.out
  go_wp2_with fail
  refine (markGraph_any _ n' _ l' 1 _ OG11.out hl9' (by omega) (by omega)).mono ?_
  rintro e w12 ⟨rfl, ho, hg⟩
  have BW12 := Lib.hid (BW11.out.keep hg (fun h => by have := GL.out _ h; omega))
  have BG12 := Lib.hid (BG11.out.keep hg (fun h => by have := GL.out _ h; omega))
  have OW12 := Lib.hid (OW11.out.keep hg (fun k hk j hj => by have := GL.out _ hk; have := WL.out _ hj; omega))
  have F12 := Lib.hid (F11.out.grown hg F11.out.size (fun k hk => by have := (GL.out _ hk).1; omega))
  have OG12 := Lib.hid ho
  have hz11 : w11.heap.size ≤ w12.heap.size := hg.size
  clear BW11 BG11 OW11 OG11 F11 hg ho cG0 cG1 cGz
  obtain ⟨cG0, cG1, cGz⟩ := BG12.out
  go_wp2_with fail
  refine (heldGraph_any n' _ 1 l'.length _ OG12.out.ints hl9' (by omega) (by omega)).mono ?_
  rintro e w13 ⟨rfl, hb⟩
  have BW13 := Lib.hid (BW12.out.keep (below_grown hb) (by simp))
  have BG13 := Lib.hid (BG12.out.keep (below_grown hb) (by simp))
  have OW13 := Lib.hid (OW12.out.keep (below_grown hb) (by simp))
  have OG13 := Lib.hid (OG12.out.keep (below_grown hb) (by simp))
  have F13 := Lib.hid (F12.out.trans (hb.mono F12.out.size))
  have hz12 : w12.heap.size ≤ w13.heap.size := hb.size
  clear BW12 BG12 OW12 OG12 F12 hb cG0 cG1 cGz
  have hk' : decide ((1 : Int) + l'.length < 0) = false := by simp; omega
  have hq : ((1 : Int) + l'.length != 1 + l'.length) = false := by simp
  go_wp2_with fail
  refine (toIntS_any _ l0 _ (HX0.out.on F13.out) hl60).mono ?_
  rintro e w14 ⟨t0, rfl, ho, hb⟩
  have BW14 := Lib.hid (BW13.out.keep (below_grown hb) (by simp))
  have BG14 := Lib.hid (BG13.out.keep (below_grown hb) (by simp))
  have OW14 := Lib.hid (OW13.out.keep (below_grown hb) (by simp))
  have OG14 := Lib.hid (OG13.out.keep (below_grown hb) (by simp))
  have F14 := Lib.hid (F13.out.trans (hb.mono F13.out.size))
  have hz13 : w13.heap.size ≤ w14.heap.size := hb.size
  have OT014 := Lib.hid ho
  clear BW13 BG13 OW13 OG13 F13 hb ho
  go_wp2_with fail
  refine (HI.out _ _ OT014.out.ints OT014.out.nilform).mono ?_
  rintro e w15 ⟨vh, rfl, ho, hb⟩
  have BW15 := Lib.hid (BW14.out.keep (below_grown hb) (by simp))
  have BG15 := Lib.hid (BG14.out.keep (below_grown hb) (by simp))
  have OW15 := Lib.hid (OW14.out.keep (below_grown hb) (by simp))
  have OG15 := Lib.hid (OG14.out.keep (below_grown hb) (by simp))
  have OT015 := Lib.hid (OT014.out.keep (below_grown hb) (by simp))
  have F15 := Lib.hid (F14.out.trans (hb.mono F14.out.size))
  have hz14 : w14.heap.size ≤ w15.heap.size := hb.size
  obtain ⟨aH, capH, rfl, -, -⟩ := ho.ints.form
  have HL := Lib.hid ho.lt
  have OH15 := Lib.hid ho
  clear BW14 BG14 OW14 OG14 OT014 F14 hb ho
  obtain ⟨w16, hw16⟩ : ∃ w16, w16 = w15.alloc (.cells #[.int .i64 n', .slice aH l'.length capH] 27) := ⟨_, rfl⟩
  have G16 : w15.grownBy w16 none := by rw [hw16]; exact grown_alloc _ _ _
  have hz15 : w15.heap.size < w16.heap.size := by rw [hw16]; simp
  obtain ⟨cW0, cW1, cWz⟩ := BW15.out
  have BW16 := Lib.hid (BW15.out.keep G16 (by simp))
  have BG16 := Lib.hid (BG15.out.keep G16 (by simp))
  have OW16 := Lib.hid (OW15.out.keep G16 (by simp))
  have OG16 := Lib.hid (OG15.out.keep G16 (by simp))
  have OH16 := Lib.hid (OH15.out.keep G16 (by simp))
  have F16 := Lib.hid (show Below w.heap.size w w16 by rw [hw16]; exact F15.out.alloc F15.out.size _)
  have BH16 := Lib.hid (show BoxG w15.heap.size n' (.slice aH l'.length capH) w16 by rw [hw16]; exact BoxG.new w15 _ n' _ ⟨_, _, _, rfl⟩)
  go_wp2_with fail
  rw [← hw16]
  clear hw16 G16 BW15 BG15 OW15 OG15 OH15 F15 cW0 cW1 cWz
  refine (eqGraph_same n' _ _ l' _ OH16.out.ints OW16.out.ints hl9').mono ?_
  rintro e w17 ⟨rfl, hb⟩
  have BW17 := Lib.hid (BW16.out.keep (below_grown hb) (by simp))
  have BG17 := Lib.hid (BG16.out.keep (below_grown hb) (by simp))
  have BH17 := Lib.hid (BH16.out.keep (below_grown hb) (by simp))
  have OW17 := Lib.hid (OW16.out.keep (below_grown hb) (by simp))
  have OG17 := Lib.hid (OG16.out.keep (below_grown hb) (by simp))
  have OH17 := Lib.hid (OH16.out.keep (below_grown hb) (by simp))
  have F17 := Lib.hid (F16.out.trans (hb.mono F16.out.size))
  have hz16 : w16.heap.size ≤ w17.heap.size := hb.size
  clear BW16 BG16 BH16 OW16 OG16 OH16 F16 hb
  obtain ⟨cG0, cG1, cGz⟩ := BG17.out
  go_wp2_with fail
  refine (heldGraph_any n' _ 1 l'.length _ OG17.out.ints hl9' (by omega) (by omega)).mono ?_
  rintro e w18 ⟨rfl, hb⟩
  have BW18 := Lib.hid (BW17.out.keep (below_grown hb) (by simp))
  have BG18 := Lib.hid (BG17.out.keep (below_grown hb) (by simp))
  have OW18 := Lib.hid (OW17.out.keep (below_grown hb) (by simp))
  have OG18 := Lib.hid (OG17.out.keep (below_grown hb) (by simp))
  have F18 := Lib.hid (F17.out.trans (hb.mono F17.out.size))
  have hz17 : w17.heap.size ≤ w18.heap.size := hb.size
  clear BW17 BG17 OW17 OG17 F17 hb cG0 cG1 cGz
  go_wp2
  go_ret
  exact ⟨rfl, F18.out⟩

set_option maxHeartbeats 1000000 in
theorem walk (v0 : Value) (l0 : List Int) (w : World) (w0 : Ints w v0 l0) : Calls Try.prog 14 #[v0] w fun e w' => e = .returned (.bool true) ∧ Below w.heap.size w w' := by
  by_cases hb0 : 1048576 < (l0.length : Int)
  · obtain ⟨a, cap, rfl, -, hm⟩ := w0.form
    clear w0
    have hd : decide (1048576 < (l0.length : Int)) = true := by simp [hb0]
    go_enter Try.func14, Try.ntmps14
    go_wp2
    go_ret
    exact ⟨rfl, Below.refl _ _⟩
  exact core v0 l0 w w0 (permN l0) (permL l0) (decide (PermP l0)) (by have := permL_length l0; omega) (by omega)
    (fun W u0 h0 _ => specGPerm _ l0 W h0 (by omega))
    (fun W u0 h0 _ => implGPerm _ l0 W h0 (by omega))

set_option maxRecDepth 100000 in
theorem lifted (os : Os) (started : os.Started) (H : Type) (enc : TypeId × Value → H) :
    ReturnsInHanded {} Try.checked os 14 .any (Rows.fnExactGraphOfPermutationSpec.pre6 enc Try.prog Try.f14 Rows.fnExactGraphOfPermutationRow.domain false) (Rows.fnExactGraphOfPermutationSpec.post enc Try.prog Try.f14 false true false false) := by
  refine returnsInHanded_of_change (C := Try.checked) own started (by kernel_rfl) Try.func14
    (ChangeSpec.witness6 (enc := enc) (C := Try.checked) false ⟨#[], #[.slice none 0 0], []⟩ 8 (by kernel_rfl) (by kernel_rfl) (by kernel_rfl) (by kernel_rfl)) ?_
  intro W base args ds gs before hval0 hW hcnd _
  have hval : ∀ (j : Nat) t v, Try.f14.params[j]? = some t → args[j]? = some v → Value.okWide Try.prog W .any base t v := hval0
  have hW' := hW
  obtain ⟨p, q, hA0, hV, rfl, hfz, hnd⟩ := hW
  have hA : DataW.TrodAll enc Try.prog W 0 (fun _ => true) true Try.f14.params.toList args.toList ds p := hA0
  rw [Try.params14] at hA hval
  obtain ⟨v0, vs0, d0, ds0, p0, q0, hargs, rfl, rfl, h0, r0⟩ := trodAll_cons hA
  obtain ⟨rfl, rfl, rfl⟩ := trodAll_nil r0
  obtain rfl : args = #[v0] := by cases args; simp_all
  obtain ⟨rfl, rfl⟩ := trodVars_none hV
  have k0 := h0
  obtain ⟨l0, w0⟩ := open_ints_arg Try.underlying22 Try.underlying3 (by kernel_rfl) (hval 0 22 v0 rfl rfl) h0
  clear hA0 hval0
  refine (walk v0 l0 W w0).mono fun e W' ⟨he, bel⟩ => ?_
  subst he
  exact ⟨_, rfl, _, _, _, [], _, [], hW', (trodAll_cons_mk (shut_bool Try.underlying4 _) trodAll_mk0), (trodAll_cons_mk (Below.trod laidOut (by kernel_rfl) (of_decide_eq_true (by kernel_rfl)) k0 bel (lt_of_trod k0)) trodAll_mk0), rfl, bel.frame _, fun h => by cases h⟩

theorem proved : Rows.FnExactGraphOfPermutationSaid :=
  OpenClaim.holds_of_wide 14 Try.f14 rfl rfl rfl rfl rfl rfl rfl ⟨rfl, rfl, rfl, rfl, rfl⟩ rfl rfl rfl rfl rfl (by kernel_rfl) Try.func14 (by kernel_rfl)
    (of_decide_eq_true (by kernel_rfl)) (by unfold Func.isWrapper; first | (rw [if_pos (by decide +kernel)]; kernel_rfl) | (rw [if_neg (by decide +kernel)]; exact ⟨rfl, rfl⟩))
    (fun os started H enc _ => lifted os started H enc)
#print axioms proved
end Go.Proofs.Ytfeepheckeplmaa.fnExactGraphOfPermutation
