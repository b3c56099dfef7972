/- At every argument IsSandwich answers as its specification and writes into no argument. -/
import Derived.Test.YtbmpljclplddeaaRows
import Derived.Test.YtbmpljclplddeaaSh
import Derived.Test.YtbmpljclplddeaaBx
import Derived.Test.YtbmpljclplddeaaGl
import Derived.Test.YtbmpljclplddeaaBx
import Derived.Test.YtbmpljclplddeaaBt
import Derived.Test.YtbmpljclplddeaaY3
import Derived.WalkKit
import Derived.Lib.LaidTab
import Derived.ProofKit
import Derived.LaidMore
import Derived.OpenShut
import Derived.ShutString
import Derived.ChangeOld
import Derived.Below
import Derived.Stop.Joined
import Derived.Stop.LaidErr
namespace Go.Proofs.Ytbmpljclplddeaa.fnExactIsSandwich
open Go.ChangeShapes Go.WideShapes Go.ChangeAt Go.RowKit
open Go.ChangeMaps (open_string shut_string)
set_option linter.unusedVariables false

theorem own : ownKnob Try.prog.godebug = none := by kernel_rfl

theorem laidOut : laidOutB Try.prog = true := by kernel_rfl

set_option maxHeartbeats 4000000 in
set_option maxRecDepth 100000 in
theorem core (n0 : Int) (v01 : Value) (l01 : List Int) (n1 : Int) (v11 : Value) (l11 : List Int) (n2 : Int) (v21 : Value) (l21 : List Int) (w : World) (w0 : (Lit.int .i64 n0).wf = true) (x01 : Ints w v01 l01) (w1 : (Lit.int .i64 n1).wf = true) (x11 : Ints w v11 l11) (w2 : (Lit.int .i64 n2).wf = true) (x21 : Ints w v21 l21) (r0 : Bool) (hbig : (l01.length : Int) + (l11.length : Int) + (l21.length : Int) ≤ 1048576)
    (hs : ∀ (W : World) (u01 : Value) (u11 : Value) (u21 : Value), Ints W u01 l01 → Ints W u11 l11 → Ints W u21 l21 → (u01 = .slice none 0 0 ∨ ∃ ad cap, u01 = .slice (some ad) l01.length cap) → (u11 = .slice none 0 0 ∨ ∃ ad cap, u11 = .slice (some ad) l11.length cap) → (u21 = .slice none 0 0 ∨ ∃ ad cap, u21 = .slice (some ad) l21.length cap) → Calls Try.prog 45 #[.agg #[.int .i64 n0, u01], .agg #[.int .i64 n1, u11], .agg #[.int .i64 n2, u21]] W (fun e W' => e = .returned (.bool r0) ∧ Below W.heap.size W W'))
    (hi : ∀ (W : World) (u01 : Value) (u11 : Value) (u21 : Value), Ints W u01 l01 → Ints W u11 l11 → Ints W u21 l21 → (u01 = .slice none 0 0 ∨ ∃ ad cap, u01 = .slice (some ad) l01.length cap) → (u11 = .slice none 0 0 ∨ ∃ ad cap, u11 = .slice (some ad) l11.length cap) → (u21 = .slice none 0 0 ∨ ∃ ad cap, u21 = .slice (some ad) l21.length cap) → Calls Try.prog 46 #[.agg #[.int .i64 n0, u01], .agg #[.int .i64 n1, u11], .agg #[.int .i64 n2, u21]] W (fun e W' => e = .returned (.bool r0) ∧ Below W.heap.size W W')) :
    Calls Try.prog 9 #[.agg #[.int .i64 n0, v01], .agg #[.int .i64 n1, v11], .agg #[.int .i64 n2, v21]] w fun e w' => e = .returned (.bool true) ∧ Below w.heap.size w w' := by
  obtain ⟨a01, cap01, rfl, -, hm01⟩ := x01.form
  have HX01 := Lib.hid x01
  unfold maxLen at hm01
  clear hm01
  obtain ⟨a11, cap11, rfl, -, hm11⟩ := x11.form
  have HX11 := Lib.hid x11
  unfold maxLen at hm11
  clear hm11
  obtain ⟨a21, cap21, rfl, -, hm21⟩ := x21.form
  have HX21 := Lib.hid x21
  unfold maxLen at hm21
  clear hm21
  have HS := Lib.hid hs
  have HI := Lib.hid hi
  clear hs hi w0 w1 w2 x01 x11 x21 
  have hne0 : (r0 != r0) = false := by simp
  have hp01 : (0 : Int) ≤ 1048576 - l01.length := by omega
  have hp11 : (0 : Int) ≤ 1048576 - l01.length - l11.length := by omega
  have hp21 : (0 : Int) ≤ 1048576 - l01.length - l11.length - l21.length := by omega
  have hl901 : l01.length ≤ 100000000 := by omega
  have hl601 : l01.length ≤ 1048576 := by omega
  have hl911 : l11.length ≤ 100000000 := by omega
  have hl611 : l11.length ≤ 1048576 := by omega
  have hl921 : l21.length ≤ 100000000 := by omega
  have hl621 : l21.length ≤ 1048576 := by omega
  have BA0_0 := Lib.hid (show Box (w.heap.size) [.int .i64 n0, .slice a01 l01.length cap01] (((w.alloc (.cells #[.int .i64 n0, .slice a01 l01.length cap01] 48)).alloc (.cells #[.int .i64 n1, .slice a11 l11.length cap11] 48)).alloc (.cells #[.int .i64 n2, .slice a21 l21.length cap21] 48)) from (((Box.new w 48 [.int .i64 n0, .slice a01 l01.length cap01]).keep (grown_alloc _ (.cells #[.int .i64 n1, .slice a11 l11.length cap11] 48) none) (by simp)).keep (grown_alloc _ (.cells #[.int .i64 n2, .slice a21 l21.length cap21] 48) none) (by simp)))
  have BA1_0 := Lib.hid (show Box (w.heap.size + 1) [.int .i64 n1, .slice a11 l11.length cap11] (((w.alloc (.cells #[.int .i64 n0, .slice a01 l01.length cap01] 48)).alloc (.cells #[.int .i64 n1, .slice a11 l11.length cap11] 48)).alloc (.cells #[.int .i64 n2, .slice a21 l21.length cap21] 48)) by have h := ((Box.new (w.alloc (.cells #[.int .i64 n0, .slice a01 l01.length cap01] 48)) 48 [.int .i64 n1, .slice a11 l11.length cap11]).keep (grown_alloc _ (.cells #[.int .i64 n2, .slice a21 l21.length cap21] 48) none) (by simp)); simpa using h)
  have BA2_0 := Lib.hid (show Box (w.heap.size + 2) [.int .i64 n2, .slice a21 l21.length cap21] (((w.alloc (.cells #[.int .i64 n0, .slice a01 l01.length cap01] 48)).alloc (.cells #[.int .i64 n1, .slice a11 l11.length cap11] 48)).alloc (.cells #[.int .i64 n2, .slice a21 l21.length cap21] 48)) by have h := (Box.new ((w.alloc (.cells #[.int .i64 n0, .slice a01 l01.length cap01] 48)).alloc (.cells #[.int .i64 n1, .slice a11 l11.length cap11] 48)) 48 [.int .i64 n2, .slice a21 l21.length cap21]); simpa using h)
  have F0 := Lib.hid (show Below w.heap.size w (((w.alloc (.cells #[.int .i64 n0, .slice a01 l01.length cap01] 48)).alloc (.cells #[.int .i64 n1, .slice a11 l11.length cap11] 48)).alloc (.cells #[.int .i64 n2, .slice a21 l21.length cap21] 48)) from ((((Below.refl _ w).alloc (Nat.le_refl _) (.cells #[.int .i64 n0, .slice a01 l01.length cap01] 48)).alloc (by simp <;> omega) (.cells #[.int .i64 n1, .slice a11 l11.length cap11] 48)).alloc (by simp <;> omega) (.cells #[.int .i64 n2, .slice a21 l21.length cap21] 48)))
  go_enter Try.func9, Try.ntmps9
  have cA00 : (((w.alloc (.cells #[.int .i64 n0, .slice a01 l01.length cap01] 48)).alloc (.cells #[.int .i64 n1, .slice a11 l11.length cap11] 48)).alloc (.cells #[.int .i64 n2, .slice a21 l21.length cap21] 48)).cell? ⟨w.heap.size, 0, none⟩ = some (.int .i64 n0) := BA0_0.out.1 0 _ rfl
  have cA01 : (((w.alloc (.cells #[.int .i64 n0, .slice a01 l01.length cap01] 48)).alloc (.cells #[.int .i64 n1, .slice a11 l11.length cap11] 48)).alloc (.cells #[.int .i64 n2, .slice a21 l21.length cap21] 48)).cell? ⟨w.heap.size, 1, none⟩ = some (.slice a01 l01.length cap01) := BA0_0.out.1 1 _ rfl
  have cA0z := BA0_0.out.2.2
  go_wp2_with fail
  refine (szGraph_fits n0 _ l01 _ _ (HX01.out.on F0.out) (by omega) (by omega)).mono ?_
  rintro e w1 ⟨rfl, hb⟩
  have BA0_1 := Lib.hid (BA0_0.out.on hb)
  have BA1_1 := Lib.hid (BA1_0.out.on hb)
  have BA2_1 := Lib.hid (BA2_0.out.on hb)
  have F1 := Lib.hid (F0.out.trans (hb.mono F0.out.size))
  have hz0 : w.heap.size + 3 ≤ w1.heap.size := BA2_1.out.2.2
  clear BA0_0 BA1_0 BA2_0 F0 hb cA00 cA01 cA0z
  have cA10 : w1.cell? ⟨w.heap.size + 1, 0, none⟩ = some (.int .i64 n1) := BA1_1.out.1 0 _ rfl
  have cA11 : w1.cell? ⟨w.heap.size + 1, 1, none⟩ = some (.slice a11 l11.length cap11) := BA1_1.out.1 1 _ rfl
  have cA1z := BA1_1.out.2.2
  go_wp2_with fail
  refine (szGraph_fits n1 _ l11 _ _ (HX11.out.on F1.out) (by omega) (by omega)).mono ?_
  rintro e w2 ⟨rfl, hb⟩
  have BA0_2 := Lib.hid (BA0_1.out.on hb)
  have BA1_2 := Lib.hid (BA1_1.out.on hb)
  have BA2_2 := Lib.hid (BA2_1.out.on hb)
  have F2 := Lib.hid (F1.out.trans (hb.mono F1.out.size))
  have hz1 : w1.heap.size ≤ w2.heap.size := hb.size
  clear BA0_1 BA1_1 BA2_1 F1 hb cA10 cA11 cA1z
  have cA20 : w2.cell? ⟨w.heap.size + 2, 0, none⟩ = some (.int .i64 n2) := BA2_2.out.1 0 _ rfl
  have cA21 : w2.cell? ⟨w.heap.size + 2, 1, none⟩ = some (.slice a21 l21.length cap21) := BA2_2.out.1 1 _ rfl
  have cA2z := BA2_2.out.2.2
  go_wp2_with fail
  refine (szGraph_fits n2 _ l21 _ _ (HX21.out.on F2.out) (by omega) (by omega)).mono ?_
  rintro e w3 ⟨rfl, hb⟩
  have BA0_3 := Lib.hid (BA0_2.out.on hb)
  have BA1_3 := Lib.hid (BA1_2.out.on hb)
  have BA2_3 := Lib.hid (BA2_2.out.on hb)
  have F3 := Lib.hid (F2.out.trans (hb.mono F2.out.size))
  have hz2 : w2.heap.size ≤ w3.heap.size := hb.size
  clear BA0_2 BA1_2 BA2_2 F2 hb cA20 cA21 cA2z
  have HR : Hid (∀ W, Below w3.heap.size w3 W → W.cell? ⟨w.heap.size, 0, none⟩ = some (.int .i64 n0) ∧ W.cell? ⟨w.heap.size, 1, none⟩ = some (.slice a01 l01.length cap01) ∧ W.cell? ⟨w.heap.size + 1, 0, none⟩ = some (.int .i64 n1) ∧ W.cell? ⟨w.heap.size + 1, 1, none⟩ = some (.slice a11 l11.length cap11) ∧ W.cell? ⟨w.heap.size + 2, 0, none⟩ = some (.int .i64 n2) ∧ W.cell? ⟨w.heap.size + 2, 1, none⟩ = some (.slice a21 l21.length cap21) ∧ Ints W (.slice a01 l01.length cap01) l01 ∧ Ints W (.slice a11 l11.length cap11) l11 ∧ Ints W (.slice a21 l21.length cap21) l21 ∧ Below w3.heap.size w3 W) := fun W hb => ⟨(BA0_3.out.on hb).1 0 _ rfl, (BA0_3.out.on hb).1 1 _ rfl, (BA1_3.out.on hb).1 0 _ rfl, (BA1_3.out.on hb).1 1 _ rfl, (BA2_3.out.on hb).1 0 _ rfl, (BA2_3.out.on hb).1 1 _ rfl, HX01.out.on (F3.out.trans (hb.mono F3.out.size)), HX11.out.on (F3.out.trans (hb.mono F3.out.size)), HX21.out.on (F3.out.trans (hb.mono F3.out.size)), hb⟩
  go_wp2
  go_region_held3 (fun w' => w'.cell? ⟨w.heap.size, 0, none⟩ = some (.int .i64 n0) ∧ w'.cell? ⟨w.heap.size, 1, none⟩ = some (.slice a01 l01.length cap01) ∧ w'.cell? ⟨w.heap.size + 1, 0, none⟩ = some (.int .i64 n1) ∧ w'.cell? ⟨w.heap.size + 1, 1, none⟩ = some (.slice a11 l11.length cap11) ∧ w'.cell? ⟨w.heap.size + 2, 0, none⟩ = some (.int .i64 n2) ∧ w'.cell? ⟨w.heap.size + 2, 1, none⟩ = some (.slice a21 l21.length cap21) ∧ Ints w' (.slice a01 l01.length cap01) l01 ∧ Ints w' (.slice a11 l11.length cap11) l11 ∧ Ints w' (.slice a21 l21.length cap21) l21 ∧ Below w3.heap.size w3 w')
    (first | exact HR.out _ (Below.refl _ _).drew | exact HR.out _ (Below.refl _ _) | (go_split_ands; exact HR.out _ (btrans (by assumption) hb)))
    (first
      | ((go_at_call_of 35 (Value.agg #[Value.int IntKind.i64 n0, Value.slice a01 l01.length cap01])); go_split_ands; refine (toGraph_any n0 _ l01 _ (by assumption) hl601).mono ?_; rintro e wa0 ⟨tw01, rfl, ho01, hb⟩; (first | (replace ho11 := ho11.keep (below_grown hb) (by simp)) | skip); (first | (replace ho21 := ho21.keep (below_grown hb) (by simp)) | skip))
      | ((go_at_call_of 35 (Value.agg #[Value.int IntKind.i64 n1, Value.slice a11 l11.length cap11])); go_split_ands; refine (toGraph_any n1 _ l11 _ (by assumption) hl611).mono ?_; rintro e wa1 ⟨tw11, rfl, ho11, hb⟩; (first | (replace ho01 := ho01.keep (below_grown hb) (by simp)) | skip); (first | (replace ho21 := ho21.keep (below_grown hb) (by simp)) | skip))
      | ((go_at_call_of 35 (Value.agg #[Value.int IntKind.i64 n2, Value.slice a21 l21.length cap21])); go_split_ands; refine (toGraph_any n2 _ l21 _ (by assumption) hl621).mono ?_; rintro e wa2 ⟨tw21, rfl, ho21, hb⟩; (first | (replace ho01 := ho01.keep (below_grown hb) (by simp)) | skip); (first | (replace ho11 := ho11.keep (below_grown hb) (by simp)) | skip))
      | (go_at_call 45; go_split_ands; refine (HS.out _ _ _ _ ho01.ints ho11.ints ho21.ints ho01.nilform ho11.nilform ho21.nilform).mono ?_; rintro e w4 ⟨rfl, hb⟩))
  go_split_ands
  have hbE : Below w3.heap.size w3 w4 := by assumption
  have BA0_4 := Lib.hid (BA0_3.out.on hbE)
  have BA1_4 := Lib.hid (BA1_3.out.on hbE)
  have BA2_4 := Lib.hid (BA2_3.out.on hbE)
  have F4 := Lib.hid (F3.out.trans (hbE.mono F3.out.size))
  have hz3 : w3.heap.size ≤ w4.heap.size := hbE.size
  clear BA0_3 BA1_3 BA2_3 F3 HR hbE hb ho01 ho11 ho21
  have cA00 : w4.cell? ⟨w.heap.size, 0, none⟩ = some (.int .i64 n0) := BA0_4.out.1 0 _ rfl
  have cA01 : w4.cell? ⟨w.heap.size, 1, none⟩ = some (.slice a01 l01.length cap01) := BA0_4.out.1 1 _ rfl
  have cA0z := BA0_4.out.2.2
  go_wp2_with fail
  refine (toGraph_any n0 _ l01 _ (HX01.out.on F4.out) hl601).mono ?_
  rintro e w5 ⟨vx01, rfl, ho01, hb⟩
  have BA0_5 := Lib.hid (BA0_4.out.on hb)
  have BA1_5 := Lib.hid (BA1_4.out.on hb)
  have BA2_5 := Lib.hid (BA2_4.out.on hb)
  have F5 := Lib.hid (F4.out.trans (hb.mono F4.out.size))
  have hz4 : w4.heap.size ≤ w5.heap.size := hb.size
  have OX01_5 := Lib.hid (show OwnR w4.heap.size w5.heap.size w5 (vx01) l01 from ⟨ho01, fun k hk => (ho01.lt k hk).2⟩)
  clear BA0_4 BA1_4 BA2_4 F4 hb ho01 cA00 cA01 cA0z
  obtain ⟨ax01, capx01, hvx01⟩ : ∃ a c, vx01 = .slice a l01.length c := by obtain ⟨a, c, h, -, -⟩ := OX01_5.out.1.ints.form; exact ⟨a, c, h⟩
  subst hvx01
  obtain ⟨w6, hw6⟩ : ∃ w6, w6 = w5.alloc (.cells #[.int .i64 n0, .slice ax01 l01.length capx01] 53) := ⟨_, rfl⟩
  have hb : Below w5.heap.size w5 w6 := by rw [hw6]; exact (Below.refl _ _).alloc (Nat.le_refl _) _
  have hzs5 : w5.heap.size < w6.heap.size := by rw [hw6]; simp
  have cA10 : w5.cell? ⟨w.heap.size + 1, 0, none⟩ = some (.int .i64 n1) := BA1_5.out.1 0 _ rfl
  have cA11 : w5.cell? ⟨w.heap.size + 1, 1, none⟩ = some (.slice a11 l11.length cap11) := BA1_5.out.1 1 _ rfl
  have cA1z := BA1_5.out.2.2
  have BA0_6 := Lib.hid (BA0_5.out.on hb)
  have BA1_6 := Lib.hid (BA1_5.out.on hb)
  have BA2_6 := Lib.hid (BA2_5.out.on hb)
  have OX01_6 := Lib.hid (OX01_5.out.on hb)
  have F6 := Lib.hid (F5.out.trans (hb.mono F5.out.size))
  have hz5 : w5.heap.size ≤ w6.heap.size := hb.size
  have BX0_6 := Lib.hid (show Box w5.heap.size [.int .i64 n0, .slice ax01 l01.length capx01] w6 by rw [hw6]; exact Box.new w5 _ _)
  go_wp2_with fail
  rw [← hw6]
  clear BA0_5 BA1_5 BA2_5 OX01_5 F5 hb hw6 cA10 cA11 cA1z
  refine (toGraph_any n1 _ l11 _ (HX11.out.on F6.out) hl611).mono ?_
  rintro e w7 ⟨vx11, rfl, ho11, hb⟩
  have BA0_7 := Lib.hid (BA0_6.out.on hb)
  have BA1_7 := Lib.hid (BA1_6.out.on hb)
  have BA2_7 := Lib.hid (BA2_6.out.on hb)
  have BX0_7 := Lib.hid (BX0_6.out.on hb)
  have OX01_7 := Lib.hid (OX01_6.out.on hb)
  have F7 := Lib.hid (F6.out.trans (hb.mono F6.out.size))
  have hz6 : w6.heap.size ≤ w7.heap.size := hb.size
  have OX11_7 := Lib.hid (show OwnR w6.heap.size w7.heap.size w7 (vx11) l11 from ⟨ho11, fun k hk => (ho11.lt k hk).2⟩)
  clear BA0_6 BA1_6 BA2_6 BX0_6 OX01_6 F6 hb ho11
  obtain ⟨ax11, capx11, hvx11⟩ : ∃ a c, vx11 = .slice a l11.length c := by obtain ⟨a, c, h, -, -⟩ := OX11_7.out.1.ints.form; exact ⟨a, c, h⟩
  subst hvx11
  obtain ⟨w8, hw8⟩ : ∃ w8, w8 = w7.alloc (.cells #[.int .i64 n1, .slice ax11 l11.length capx11] 53) := ⟨_, rfl⟩
  have hb : Below w7.heap.size w7 w8 := by rw [hw8]; exact (Below.refl _ _).alloc (Nat.le_refl _) _
  have hzs7 : w7.heap.size < w8.heap.size := by rw [hw8]; simp
  have cA20 : w7.cell? ⟨w.heap.size + 2, 0, none⟩ = some (.int .i64 n2) := BA2_7.out.1 0 _ rfl
  have cA21 : w7.cell? ⟨w.heap.size + 2, 1, none⟩ = some (.slice a21 l21.length cap21) := BA2_7.out.1 1 _ rfl
  have cA2z := BA2_7.out.2.2
  have BA0_8 := Lib.hid (BA0_7.out.on hb)
  have BA1_8 := Lib.hid (BA1_7.out.on hb)
  have BA2_8 := Lib.hid (BA2_7.out.on hb)
  have BX0_8 := Lib.hid (BX0_7.out.on hb)
  have OX01_8 := Lib.hid (OX01_7.out.on hb)
  have OX11_8 := Lib.hid (OX11_7.out.on hb)
  have F8 := Lib.hid (F7.out.trans (hb.mono F7.out.size))
  have hz7 : w7.heap.size ≤ w8.heap.size := hb.size
  have BX1_8 := Lib.hid (show Box w7.heap.size [.int .i64 n1, .slice ax11 l11.length capx11] w8 by rw [hw8]; exact Box.new w7 _ _)
  go_wp2_with fail
  rw [← hw8]
  clear BA0_7 BA1_7 BA2_7 BX0_7 OX01_7 OX11_7 F7 hb hw8 cA20 cA21 cA2z
  refine (toGraph_any n2 _ l21 _ (HX21.out.on F8.out) hl621).mono ?_
  rintro e w9 ⟨vx21, rfl, ho21, hb⟩
  have BA0_9 := Lib.hid (BA0_8.out.on hb)
  have BA1_9 := Lib.hid (BA1_8.out.on hb)
  have BA2_9 := Lib.hid (BA2_8.out.on hb)
  have BX0_9 := Lib.hid (BX0_8.out.on hb)
  have BX1_9 := Lib.hid (BX1_8.out.on hb)
  have OX01_9 := Lib.hid (OX01_8.out.on hb)
  have OX11_9 := Lib.hid (OX11_8.out.on hb)
  have F9 := Lib.hid (F8.out.trans (hb.mono F8.out.size))
  have hz8 : w8.heap.size ≤ w9.heap.size := hb.size
  have OX21_9 := Lib.hid (show OwnR w8.heap.size w9.heap.size w9 (vx21) l21 from ⟨ho21, fun k hk => (ho21.lt k hk).2⟩)
  clear BA0_8 BA1_8 BA2_8 BX0_8 BX1_8 OX01_8 OX11_8 F8 hb ho21
  obtain ⟨ax21, capx21, hvx21⟩ : ∃ a c, vx21 = .slice a l21.length c := by obtain ⟨a, c, h, -, -⟩ := OX21_9.out.1.ints.form; exact ⟨a, c, h⟩
  subst hvx21
  obtain ⟨w10, hw10⟩ : ∃ w10, w10 = w9.alloc (.cells #[.int .i64 n2, .slice ax21 l21.length capx21] 53) := ⟨_, rfl⟩
  have hb : Below w9.heap.size w9 w10 := by rw [hw10]; exact (Below.refl _ _).alloc (Nat.le_refl _) _
  have hzs9 : w9.heap.size < w10.heap.size := by rw [hw10]; simp
  have cX00 : w9.cell? ⟨w5.heap.size, 0, none⟩ = some (.int .i64 n0) := BX0_9.out.1 0 _ rfl
  have cX01 : w9.cell? ⟨w5.heap.size, 1, none⟩ = some (.slice ax01 l01.length capx01) := BX0_9.out.1 1 _ rfl
  have cX0z := BX0_9.out.2.2
  have cX10 : w9.cell? ⟨w7.heap.size, 0, none⟩ = some (.int .i64 n1) := BX1_9.out.1 0 _ rfl
  have cX11 : w9.cell? ⟨w7.heap.size, 1, none⟩ = some (.slice ax11 l11.length capx11) := BX1_9.out.1 1 _ rfl
  have cX1z := BX1_9.out.2.2
  have BA0_10 := Lib.hid (BA0_9.out.on hb)
  have BA1_10 := Lib.hid (BA1_9.out.on hb)
  have BA2_10 := Lib.hid (BA2_9.out.on hb)
  have BX0_10 := Lib.hid (BX0_9.out.on hb)
  have BX1_10 := Lib.hid (BX1_9.out.on hb)
  have OX01_10 := Lib.hid (OX01_9.out.on hb)
  have OX11_10 := Lib.hid (OX11_9.out.on hb)
  have OX21_10 := Lib.hid (OX21_9.out.on hb)
  have F10 := Lib.hid (F9.out.trans (hb.mono F9.out.size))
  have hz9 : w9.heap.size ≤ w10.heap.size := hb.size
  have BX2_10 := Lib.hid (show Box w9.heap.size [.int .i64 n2, .slice ax21 l21.length capx21] w10 by rw [hw10]; exact Box.new w9 _ _)
  go_wp2_with fail
  rw [← hw10]
  clear BA0_9 BA1_9 BA2_9 BX0_9 BX1_9 OX01_9 OX11_9 OX21_9 F9 hb hw10 cX00 cX01 cX0z cX10 cX11 cX1z
  refine (HI.out _ _ _ _ OX01_10.out.1.ints OX11_10.out.1.ints OX21_10.out.1.ints OX01_10.out.1.nilform OX11_10.out.1.nilform OX21_10.out.1.nilform).mono ?_
  rintro e w11 ⟨rfl, hb⟩
  have BA0_11 := Lib.hid (BA0_10.out.on hb)
  have BA1_11 := Lib.hid (BA1_10.out.on hb)
  have BA2_11 := Lib.hid (BA2_10.out.on hb)
  have BX0_11 := Lib.hid (BX0_10.out.on hb)
  have BX1_11 := Lib.hid (BX1_10.out.on hb)
  have BX2_11 := Lib.hid (BX2_10.out.on hb)
  have OX01_11 := Lib.hid (OX01_10.out.on hb)
  have OX11_11 := Lib.hid (OX11_10.out.on hb)
  have OX21_11 := Lib.hid (OX21_10.out.on hb)
  have F11 := Lib.hid (F10.out.trans (hb.mono F10.out.size))
  have hz10 : w10.heap.size ≤ w11.heap.size := hb.size
  clear BA0_10 BA1_10 BA2_10 BX0_10 BX1_10 BX2_10 OX01_10 OX11_10 OX21_10 F10 hb
  have HR : Hid (∀ W, Below w11.heap.size w11 W → W.cell? ⟨w.heap.size, 0, none⟩ = some (.int .i64 n0) ∧ W.cell? ⟨w.heap.size, 1, none⟩ = some (.slice a01 l01.length cap01) ∧ W.cell? ⟨w5.heap.size, 0, none⟩ = some (.int .i64 n0) ∧ W.cell? ⟨w5.heap.size, 1, none⟩ = some (.slice ax01 l01.length capx01) ∧ Ints W (.slice a01 l01.length cap01) l01 ∧ Ints W (.slice ax01 l01.length capx01) l01 ∧ Below w11.heap.size w11 W) := fun W hb => ⟨(BA0_11.out.on hb).1 0 _ rfl, (BA0_11.out.on hb).1 1 _ rfl, (BX0_11.out.on hb).1 0 _ rfl, (BX0_11.out.on hb).1 1 _ rfl, HX01.out.on (F11.out.trans (hb.mono F11.out.size)), (OX01_11.out.on hb).1.ints, hb⟩
  go_wp2
  go_region_held3 (fun w' => w'.cell? ⟨w.heap.size, 0, none⟩ = some (.int .i64 n0) ∧ w'.cell? ⟨w.heap.size, 1, none⟩ = some (.slice a01 l01.length cap01) ∧ w'.cell? ⟨w5.heap.size, 0, none⟩ = some (.int .i64 n0) ∧ w'.cell? ⟨w5.heap.size, 1, none⟩ = some (.slice ax01 l01.length capx01) ∧ Ints w' (.slice a01 l01.length cap01) l01 ∧ Ints w' (.slice ax01 l01.length capx01) l01 ∧ Below w11.heap.size w11 w')
    (first | exact HR.out _ (Below.refl _ _).drew | exact HR.out _ (Below.refl _ _) | (go_split_ands; exact HR.out _ (btrans (by assumption) hb)))
    (first
      | (go_at_call 35; go_split_ands; refine (toGraph_any n0 _ l01 _ (by assumption) hl601).mono ?_; rintro e wa ⟨vy01, rfl, ho01, hb⟩)
      | (go_at_call 38; go_split_ands; refine (eqGraph_same n0 _ _ l01 _ (by assumption) ho01.ints hl901).mono ?_; rintro e w12 ⟨rfl, hb⟩))
  go_split_ands
  have hbE : Below w11.heap.size w11 w12 := by assumption
  have BA0_12 := Lib.hid (BA0_11.out.on hbE)
  have BA1_12 := Lib.hid (BA1_11.out.on hbE)
  have BA2_12 := Lib.hid (BA2_11.out.on hbE)
  have BX0_12 := Lib.hid (BX0_11.out.on hbE)
  have BX1_12 := Lib.hid (BX1_11.out.on hbE)
  have BX2_12 := Lib.hid (BX2_11.out.on hbE)
  have OX01_12 := Lib.hid (OX01_11.out.on hbE)
  have OX11_12 := Lib.hid (OX11_11.out.on hbE)
  have OX21_12 := Lib.hid (OX21_11.out.on hbE)
  have F12 := Lib.hid (F11.out.trans (hbE.mono F11.out.size))
  have hz11 : w11.heap.size ≤ w12.heap.size := hbE.size
  clear BA0_11 BA1_11 BA2_11 BX0_11 BX1_11 BX2_11 OX01_11 OX11_11 OX21_11 F11 HR hbE hb ho01
  have HR : Hid (∀ W, Below w12.heap.size w12 W → W.cell? ⟨w.heap.size + 1, 0, none⟩ = some (.int .i64 n1) ∧ W.cell? ⟨w.heap.size + 1, 1, none⟩ = some (.slice a11 l11.length cap11) ∧ W.cell? ⟨w7.heap.size, 0, none⟩ = some (.int .i64 n1) ∧ W.cell? ⟨w7.heap.size, 1, none⟩ = some (.slice ax11 l11.length capx11) ∧ Ints W (.slice a11 l11.length cap11) l11 ∧ Ints W (.slice ax11 l11.length capx11) l11 ∧ Below w12.heap.size w12 W) := fun W hb => ⟨(BA1_12.out.on hb).1 0 _ rfl, (BA1_12.out.on hb).1 1 _ rfl, (BX1_12.out.on hb).1 0 _ rfl, (BX1_12.out.on hb).1 1 _ rfl, HX11.out.on (F12.out.trans (hb.mono F12.out.size)), (OX11_12.out.on hb).1.ints, hb⟩
  go_wp2
  go_region_held3 (fun w' => w'.cell? ⟨w.heap.size + 1, 0, none⟩ = some (.int .i64 n1) ∧ w'.cell? ⟨w.heap.size + 1, 1, none⟩ = some (.slice a11 l11.length cap11) ∧ w'.cell? ⟨w7.heap.size, 0, none⟩ = some (.int .i64 n1) ∧ w'.cell? ⟨w7.heap.size, 1, none⟩ = some (.slice ax11 l11.length capx11) ∧ Ints w' (.slice a11 l11.length cap11) l11 ∧ Ints w' (.slice ax11 l11.length capx11) l11 ∧ Below w12.heap.size w12 w')
    (first | exact HR.out _ (Below.refl _ _).drew | exact HR.out _ (Below.refl _ _) | (go_split_ands; exact HR.out _ (btrans (by assumption) hb)))
    (first
      | (go_at_call 35; go_split_ands; refine (toGraph_any n1 _ l11 _ (by assumption) hl611).mono ?_; rintro e wa ⟨vy11, rfl, ho11, hb⟩)
      | (go_at_call 38; go_split_ands; refine (eqGraph_same n1 _ _ l11 _ (by assumption) ho11.ints hl911).mono ?_; rintro e w13 ⟨rfl, hb⟩))
  go_split_ands
  have hbE : Below w12.heap.size w12 w13 := by assumption
  have BA0_13 := Lib.hid (BA0_12.out.on hbE)
  have BA1_13 := Lib.hid (BA1_12.out.on hbE)
  have BA2_13 := Lib.hid (BA2_12.out.on hbE)
  have BX0_13 := Lib.hid (BX0_12.out.on hbE)
  have BX1_13 := Lib.hid (BX1_12.out.on hbE)
  have BX2_13 := Lib.hid (BX2_12.out.on hbE)
  have OX01_13 := Lib.hid (OX01_12.out.on hbE)
  have OX11_13 := Lib.hid (OX11_12.out.on hbE)
  have OX21_13 := Lib.hid (OX21_12.out.on hbE)
  have F13 := Lib.hid (F12.out.trans (hbE.mono F12.out.size))
  have hz12 : w12.heap.size ≤ w13.heap.size := hbE.size
  clear BA0_12 BA1_12 BA2_12 BX0_12 BX1_12 BX2_12 OX01_12 OX11_12 OX21_12 F12 HR hbE hb ho11
  have HR : Hid (∀ W, Below w13.heap.size w13 W → W.cell? ⟨w.heap.size + 2, 0, none⟩ = some (.int .i64 n2) ∧ W.cell? ⟨w.heap.size + 2, 1, none⟩ = some (.slice a21 l21.length cap21) ∧ W.cell? ⟨w9.heap.size, 0, none⟩ = some (.int .i64 n2) ∧ W.cell? ⟨w9.heap.size, 1, none⟩ = some (.slice ax21 l21.length capx21) ∧ Ints W (.slice a21 l21.length cap21) l21 ∧ Ints W (.slice ax21 l21.length capx21) l21 ∧ Below w13.heap.size w13 W) := fun W hb => ⟨(BA2_13.out.on hb).1 0 _ rfl, (BA2_13.out.on hb).1 1 _ rfl, (BX2_13.out.on hb).1 0 _ rfl, (BX2_13.out.on hb).1 1 _ rfl, HX21.out.on (F13.out.trans (hb.mono F13.out.size)), (OX21_13.out.on hb).1.ints, hb⟩
  go_wp2
  go_region_held3 (fun w' => w'.cell? ⟨w.heap.size + 2, 0, none⟩ = some (.int .i64 n2) ∧ w'.cell? ⟨w.heap.size + 2, 1, none⟩ = some (.slice a21 l21.length cap21) ∧ w'.cell? ⟨w9.heap.size, 0, none⟩ = some (.int .i64 n2) ∧ w'.cell? ⟨w9.heap.size, 1, none⟩ = some (.slice ax21 l21.length capx21) ∧ Ints w' (.slice a21 l21.length cap21) l21 ∧ Ints w' (.slice ax21 l21.length capx21) l21 ∧ Below w13.heap.size w13 w')
    (first | exact HR.out _ (Below.refl _ _).drew | exact HR.out _ (Below.refl _ _) | (go_split_ands; exact HR.out _ (btrans (by assumption) hb)))
    (first
      | (go_at_call 35; go_split_ands; refine (toGraph_any n2 _ l21 _ (by assumption) hl621).mono ?_; rintro e wa ⟨vy21, rfl, ho21, hb⟩)
      | (go_at_call 38; go_split_ands; refine (eqGraph_same n2 _ _ l21 _ (by assumption) ho21.ints hl921).mono ?_; rintro e w14 ⟨rfl, hb⟩))
  go_split_ands
  have hbE : Below w13.heap.size w13 w14 := by assumption
  have BA0_14 := Lib.hid (BA0_13.out.on hbE)
  have BA1_14 := Lib.hid (BA1_13.out.on hbE)
  have BA2_14 := Lib.hid (BA2_13.out.on hbE)
  have BX0_14 := Lib.hid (BX0_13.out.on hbE)
  have BX1_14 := Lib.hid (BX1_13.out.on hbE)
  have BX2_14 := Lib.hid (BX2_13.out.on hbE)
  have OX01_14 := Lib.hid (OX01_13.out.on hbE)
  have OX11_14 := Lib.hid (OX11_13.out.on hbE)
  have OX21_14 := Lib.hid (OX21_13.out.on hbE)
  have F14 := Lib.hid (F13.out.trans (hbE.mono F13.out.size))
  have hz13 : w13.heap.size ≤ w14.heap.size := hbE.size
  clear BA0_13 BA1_13 BA2_13 BX0_13 BX1_13 BX2_13 OX01_13 OX11_13 OX21_13 F13 HR hbE hb ho21
  go_wp2
  go_ret
  exact ⟨rfl, F14.out⟩

set_option maxHeartbeats 1000000 in
set_option maxRecDepth 100000 in
theorem walk (n0 : Int) (v01 : Value) (l01 : List Int) (n1 : Int) (v11 : Value) (l11 : List Int) (n2 : Int) (v21 : Value) (l21 : List Int) (w : World) (w0 : (Lit.int .i64 n0).wf = true) (x01 : Ints w v01 l01) (w1 : (Lit.int .i64 n1).wf = true) (x11 : Ints w v11 l11) (w2 : (Lit.int .i64 n2).wf = true) (x21 : Ints w v21 l21) : Calls Try.prog 9 #[.agg #[.int .i64 n0, v01], .agg #[.int .i64 n1, v11], .agg #[.int .i64 n2, v21]] w fun e w' => e = .returned (.bool true) ∧ Below w.heap.size w w' := by
  by_cases hb0 : 1048576 < (l01.length : Int)
  · skip
    obtain ⟨a01, cap01, rfl, -, hm01⟩ := x01.form
    have HX01 := Lib.hid x01
    obtain ⟨a11, cap11, rfl, -, hm11⟩ := x11.form
    have HX11 := Lib.hid x11
    obtain ⟨a21, cap21, rfl, -, hm21⟩ := x21.form
    have HX21 := Lib.hid x21
    clear w0 w1 w2 x01 x11 x21 
    have BA0_0 := Lib.hid (show Box (w.heap.size) [.int .i64 n0, .slice a01 l01.length cap01] (((w.alloc (.cells #[.int .i64 n0, .slice a01 l01.length cap01] 48)).alloc (.cells #[.int .i64 n1, .slice a11 l11.length cap11] 48)).alloc (.cells #[.int .i64 n2, .slice a21 l21.length cap21] 48)) from (((Box.new w 48 [.int .i64 n0, .slice a01 l01.length cap01]).keep (grown_alloc _ (.cells #[.int .i64 n1, .slice a11 l11.length cap11] 48) none) (by simp)).keep (grown_alloc _ (.cells #[.int .i64 n2, .slice a21 l21.length cap21] 48) none) (by simp)))
    have BA1_0 := Lib.hid (show Box (w.heap.size + 1) [.int .i64 n1, .slice a11 l11.length cap11] (((w.alloc (.cells #[.int .i64 n0, .slice a01 l01.length cap01] 48)).alloc (.cells #[.int .i64 n1, .slice a11 l11.length cap11] 48)).alloc (.cells #[.int .i64 n2, .slice a21 l21.length cap21] 48)) by have h := ((Box.new (w.alloc (.cells #[.int .i64 n0, .slice a01 l01.length cap01] 48)) 48 [.int .i64 n1, .slice a11 l11.length cap11]).keep (grown_alloc _ (.cells #[.int .i64 n2, .slice a21 l21.length cap21] 48) none) (by simp)); simpa using h)
    have BA2_0 := Lib.hid (show Box (w.heap.size + 2) [.int .i64 n2, .slice a21 l21.length cap21] (((w.alloc (.cells #[.int .i64 n0, .slice a01 l01.length cap01] 48)).alloc (.cells #[.int .i64 n1, .slice a11 l11.length cap11] 48)).alloc (.cells #[.int .i64 n2, .slice a21 l21.length cap21] 48)) by have h := (Box.new ((w.alloc (.cells #[.int .i64 n0, .slice a01 l01.length cap01] 48)).alloc (.cells #[.int .i64 n1, .slice a11 l11.length cap11] 48)) 48 [.int .i64 n2, .slice a21 l21.length cap21]); simpa using h)
    have F0 := Lib.hid (show Below w.heap.size w (((w.alloc (.cells #[.int .i64 n0, .slice a01 l01.length cap01] 48)).alloc (.cells #[.int .i64 n1, .slice a11 l11.length cap11] 48)).alloc (.cells #[.int .i64 n2, .slice a21 l21.length cap21] 48)) from ((((Below.refl _ w).alloc (Nat.le_refl _) (.cells #[.int .i64 n0, .slice a01 l01.length cap01] 48)).alloc (by simp <;> omega) (.cells #[.int .i64 n1, .slice a11 l11.length cap11] 48)).alloc (by simp <;> omega) (.cells #[.int .i64 n2, .slice a21 l21.length cap21] 48)))
    go_enter Try.func9, Try.ntmps9
    have cc00 : (((w.alloc (.cells #[.int .i64 n0, .slice a01 l01.length cap01] 48)).alloc (.cells #[.int .i64 n1, .slice a11 l11.length cap11] 48)).alloc (.cells #[.int .i64 n2, .slice a21 l21.length cap21] 48)).cell? ⟨w.heap.size, 0, none⟩ = some (.int .i64 n0) := BA0_0.out.1 0 _ rfl
    have cc01 : (((w.alloc (.cells #[.int .i64 n0, .slice a01 l01.length cap01] 48)).alloc (.cells #[.int .i64 n1, .slice a11 l11.length cap11] 48)).alloc (.cells #[.int .i64 n2, .slice a21 l21.length cap21] 48)).cell? ⟨w.heap.size, 1, none⟩ = some (.slice a01 l01.length cap01) := BA0_0.out.1 1 _ rfl
    go_wp2_with fail
    refine (szGraph_over n0 _ l01 _ _ (HX01.out.on F0.out) (by omega) (by omega)).mono ?_
    rintro e w1 ⟨rfl, hb⟩
    have BA0_1 := Lib.hid (BA0_0.out.on hb)
    have BA1_1 := Lib.hid (BA1_0.out.on hb)
    have BA2_1 := Lib.hid (BA2_0.out.on hb)
    have F1 := Lib.hid (F0.out.trans (hb.mono F0.out.size))
    clear hb BA0_0 BA1_0 BA2_0 F0 cc00 cc01
    go_wp2
    go_ret
    exact ⟨rfl, F1.out⟩
  by_cases hb1 : 1048576 < (l01.length : Int) + (l11.length : Int)
  · skip
    obtain ⟨a01, cap01, rfl, -, hm01⟩ := x01.form
    have HX01 := Lib.hid x01
    obtain ⟨a11, cap11, rfl, -, hm11⟩ := x11.form
    have HX11 := Lib.hid x11
    obtain ⟨a21, cap21, rfl, -, hm21⟩ := x21.form
    have HX21 := Lib.hid x21
    clear w0 w1 w2 x01 x11 x21 
    have hp01 : (0 : Int) ≤ 1048576 - l01.length := by omega
    have BA0_0 := Lib.hid (show Box (w.heap.size) [.int .i64 n0, .slice a01 l01.length cap01] (((w.alloc (.cells #[.int .i64 n0, .slice a01 l01.length cap01] 48)).alloc (.cells #[.int .i64 n1, .slice a11 l11.length cap11] 48)).alloc (.cells #[.int .i64 n2, .slice a21 l21.length cap21] 48)) from (((Box.new w 48 [.int .i64 n0, .slice a01 l01.length cap01]).keep (grown_alloc _ (.cells #[.int .i64 n1, .slice a11 l11.length cap11] 48) none) (by simp)).keep (grown_alloc _ (.cells #[.int .i64 n2, .slice a21 l21.length cap21] 48) none) (by simp)))
    have BA1_0 := Lib.hid (show Box (w.heap.size + 1) [.int .i64 n1, .slice a11 l11.length cap11] (((w.alloc (.cells #[.int .i64 n0, .slice a01 l01.length cap01] 48)).alloc (.cells #[.int .i64 n1, .slice a11 l11.length cap11] 48)).alloc (.cells #[.int .i64 n2, .slice a21 l21.length cap21] 48)) by have h := ((Box.new (w.alloc (.cells #[.int .i64 n0, .slice a01 l01.length cap01] 48)) 48 [.int .i64 n1, .slice a11 l11.length cap11]).keep (grown_alloc _ (.cells #[.int .i64 n2, .slice a21 l21.length cap21] 48) none) (by simp)); simpa using h)
    have BA2_0 := Lib.hid (show Box (w.heap.size + 2) [.int .i64 n2, .slice a21 l21.length cap21] (((w.alloc (.cells #[.int .i64 n0, .slice a01 l01.length cap01] 48)).alloc (.cells #[.int .i64 n1, .slice a11 l11.length cap11] 48)).alloc (.cells #[.int .i64 n2, .slice a21 l21.length cap21] 48)) by have h := (Box.new ((w.alloc (.cells #[.int .i64 n0, .slice a01 l01.length cap01] 48)).alloc (.cells #[.int .i64 n1, .slice a11 l11.length cap11] 48)) 48 [.int .i64 n2, .slice a21 l21.length cap21]); simpa using h)
    have F0 := Lib.hid (show Below w.heap.size w (((w.alloc (.cells #[.int .i64 n0, .slice a01 l01.length cap01] 48)).alloc (.cells #[.int .i64 n1, .slice a11 l11.length cap11] 48)).alloc (.cells #[.int .i64 n2, .slice a21 l21.length cap21] 48)) from ((((Below.refl _ w).alloc (Nat.le_refl _) (.cells #[.int .i64 n0, .slice a01 l01.length cap01] 48)).alloc (by simp <;> omega) (.cells #[.int .i64 n1, .slice a11 l11.length cap11] 48)).alloc (by simp <;> omega) (.cells #[.int .i64 n2, .slice a21 l21.length cap21] 48)))
    go_enter Try.func9, Try.ntmps9
    have cc00 : (((w.alloc (.cells #[.int .i64 n0, .slice a01 l01.length cap01] 48)).alloc (.cells #[.int .i64 n1, .slice a11 l11.length cap11] 48)).alloc (.cells #[.int .i64 n2, .slice a21 l21.length cap21] 48)).cell? ⟨w.heap.size, 0, none⟩ = some (.int .i64 n0) := BA0_0.out.1 0 _ rfl
    have cc01 : (((w.alloc (.cells #[.int .i64 n0, .slice a01 l01.length cap01] 48)).alloc (.cells #[.int .i64 n1, .slice a11 l11.length cap11] 48)).alloc (.cells #[.int .i64 n2, .slice a21 l21.length cap21] 48)).cell? ⟨w.heap.size, 1, none⟩ = some (.slice a01 l01.length cap01) := BA0_0.out.1 1 _ rfl
    go_wp2_with fail
    refine (szGraph_fits n0 _ l01 _ _ (HX01.out.on F0.out) (by omega) (by omega)).mono ?_
    rintro e w1 ⟨rfl, hb⟩
    have BA0_1 := Lib.hid (BA0_0.out.on hb)
    have BA1_1 := Lib.hid (BA1_0.out.on hb)
    have BA2_1 := Lib.hid (BA2_0.out.on hb)
    have F1 := Lib.hid (F0.out.trans (hb.mono F0.out.size))
    clear hb BA0_0 BA1_0 BA2_0 F0 cc00 cc01
    have cc10 : w1.cell? ⟨w.heap.size + 1, 0, none⟩ = some (.int .i64 n1) := BA1_1.out.1 0 _ rfl
    have cc11 : w1.cell? ⟨w.heap.size + 1, 1, none⟩ = some (.slice a11 l11.length cap11) := BA1_1.out.1 1 _ rfl
    go_wp2_with fail
    refine (szGraph_over n1 _ l11 _ _ (HX11.out.on F1.out) (by omega) (by omega)).mono ?_
    rintro e w2 ⟨rfl, hb⟩
    have BA0_2 := Lib.hid (BA0_1.out.on hb)
    have BA1_2 := Lib.hid (BA1_1.out.on hb)
    have BA2_2 := Lib.hid (BA2_1.out.on hb)
    have F2 := Lib.hid (F1.out.trans (hb.mono F1.out.size))
    clear hb BA0_1 BA1_1 BA2_1 F1 cc10 cc11
    go_wp2
    go_ret
    exact ⟨rfl, F2.out⟩
  by_cases hb2 : 1048576 < (l01.length : Int) + (l11.length : Int) + (l21.length : Int)
  · skip
    obtain ⟨a01, cap01, rfl, -, hm01⟩ := x01.form
    have HX01 := Lib.hid x01
    obtain ⟨a11, cap11, rfl, -, hm11⟩ := x11.form
    have HX11 := Lib.hid x11
    obtain ⟨a21, cap21, rfl, -, hm21⟩ := x21.form
    have HX21 := Lib.hid x21
    clear w0 w1 w2 x01 x11 x21 
    have hp01 : (0 : Int) ≤ 1048576 - l01.length := by omega
    have hp11 : (0 : Int) ≤ 1048576 - l01.length - l11.length := by omega
    have BA0_0 := Lib.hid (show Box (w.heap.size) [.int .i64 n0, .slice a01 l01.length cap01] (((w.alloc (.cells #[.int .i64 n0, .slice a01 l01.length cap01] 48)).alloc (.cells #[.int .i64 n1, .slice a11 l11.length cap11] 48)).alloc (.cells #[.int .i64 n2, .slice a21 l21.length cap21] 48)) from (((Box.new w 48 [.int .i64 n0, .slice a01 l01.length cap01]).keep (grown_alloc _ (.cells #[.int .i64 n1, .slice a11 l11.length cap11] 48) none) (by simp)).keep (grown_alloc _ (.cells #[.int .i64 n2, .slice a21 l21.length cap21] 48) none) (by simp)))
    have BA1_0 := Lib.hid (show Box (w.heap.size + 1) [.int .i64 n1, .slice a11 l11.length cap11] (((w.alloc (.cells #[.int .i64 n0, .slice a01 l01.length cap01] 48)).alloc (.cells #[.int .i64 n1, .slice a11 l11.length cap11] 48)).alloc (.cells #[.int .i64 n2, .slice a21 l21.length cap21] 48)) by have h := ((Box.new (w.alloc (.cells #[.int .i64 n0, .slice a01 l01.length cap01] 48)) 48 [.int .i64 n1, .slice a11 l11.length cap11]).keep (grown_alloc _ (.cells #[.int .i64 n2, .slice a21 l21.length cap21] 48) none) (by simp)); simpa using h)
    have BA2_0 := Lib.hid (show Box (w.heap.size + 2) [.int .i64 n2, .slice a21 l21.length cap21] (((w.alloc (.cells #[.int .i64 n0, .slice a01 l01.length cap01] 48)).alloc (.cells #[.int .i64 n1, .slice a11 l11.length cap11] 48)).alloc (.cells #[.int .i64 n2, .slice a21 l21.length cap21] 48)) by have h := (Box.new ((w.alloc (.cells #[.int .i64 n0, .slice a01 l01.length cap01] 48)).alloc (.cells #[.int .i64 n1, .slice a11 l11.length cap11] 48)) 48 [.int .i64 n2, .slice a21 l21.length cap21]); simpa using h)
    have F0 := Lib.hid (show Below w.heap.size w (((w.alloc (.cells #[.int .i64 n0, .slice a01 l01.length cap01] 48)).alloc (.cells #[.int .i64 n1, .slice a11 l11.length cap11] 48)).alloc (.cells #[.int .i64 n2, .slice a21 l21.length cap21] 48)) from ((((Below.refl _ w).alloc (Nat.le_refl _) (.cells #[.int .i64 n0, .slice a01 l01.length cap01] 48)).alloc (by simp <;> omega) (.cells #[.int .i64 n1, .slice a11 l11.length cap11] 48)).alloc (by simp <;> omega) (.cells #[.int .i64 n2, .slice a21 l21.length cap21] 48)))
    go_enter Try.func9, Try.ntmps9
    have cc00 : (((w.alloc (.cells #[.int .i64 n0, .slice a01 l01.length cap01] 48)).alloc (.cells #[.int .i64 n1, .slice a11 l11.length cap11] 48)).alloc (.cells #[.int .i64 n2, .slice a21 l21.length cap21] 48)).cell? ⟨w.heap.size, 0, none⟩ = some (.int .i64 n0) := BA0_0.out.1 0 _ rfl
    have cc01 : (((w.alloc (.cells #[.int .i64 n0, .slice a01 l01.length cap01] 48)).alloc (.cells #[.int .i64 n1, .slice a11 l11.length cap11] 48)).alloc (.cells #[.int .i64 n2, .slice a21 l21.length cap21] 48)).cell? ⟨w.heap.size, 1, none⟩ = some (.slice a01 l01.length cap01) := BA0_0.out.1 1 _ rfl
    go_wp2_with fail
    refine (szGraph_fits n0 _ l01 _ _ (HX01.out.on F0.out) (by omega) (by omega)).mono ?_
    rintro e w1 ⟨rfl, hb⟩
    have BA0_1 := Lib.hid (BA0_0.out.on hb)
    have BA1_1 := Lib.hid (BA1_0.out.on hb)
    have BA2_1 := Lib.hid (BA2_0.out.on hb)
    have F1 := Lib.hid (F0.out.trans (hb.mono F0.out.size))
    clear hb BA0_0 BA1_0 BA2_0 F0 cc00 cc01
    have cc10 : w1.cell? ⟨w.heap.size + 1, 0, none⟩ = some (.int .i64 n1) := BA1_1.out.1 0 _ rfl
    have cc11 : w1.cell? ⟨w.heap.size + 1, 1, none⟩ = some (.slice a11 l11.length cap11) := BA1_1.out.1 1 _ rfl
    go_wp2_with fail
    refine (szGraph_fits n1 _ l11 _ _ (HX11.out.on F1.out) (by omega) (by omega)).mono ?_
    rintro e w2 ⟨rfl, hb⟩
    have BA0_2 := Lib.hid (BA0_1.out.on hb)
    have BA1_2 := Lib.hid (BA1_1.out.on hb)
    have BA2_2 := Lib.hid (BA2_1.out.on hb)
    have F2 := Lib.hid (F1.out.trans (hb.mono F1.out.size))
    clear hb BA0_1 BA1_1 BA2_1 F1 cc10 cc11
    have cc20 : w2.cell? ⟨w.heap.size + 2, 0, none⟩ = some (.int .i64 n2) := BA2_2.out.1 0 _ rfl
    have cc21 : w2.cell? ⟨w.heap.size + 2, 1, none⟩ = some (.slice a21 l21.length cap21) := BA2_2.out.1 1 _ rfl
    go_wp2_with fail
    refine (szGraph_over n2 _ l21 _ _ (HX21.out.on F2.out) (by omega) (by omega)).mono ?_
    rintro e w3 ⟨rfl, hb⟩
    have BA0_3 := Lib.hid (BA0_2.out.on hb)
    have BA1_3 := Lib.hid (BA1_2.out.on hb)
    have BA2_3 := Lib.hid (BA2_2.out.on hb)
    have F3 := Lib.hid (F2.out.trans (hb.mono F2.out.size))
    clear hb BA0_2 BA1_2 BA2_2 F2 cc20 cc21
    go_wp2
    go_ret
    exact ⟨rfl, F3.out⟩
  exact core n0 v01 l01 n1 v11 l11 n2 v21 l21 w w0 x01 w1 x11 w2 x21 (decide (WithinP n0 l01 n2 l21 ∧ WithinP n2 l21 n1 l11))  (by omega)
    (fun W u01 u11 u21 h01 h11 h21 _ _ _ => (specSandwich n0 n1 n2 u01 u11 u21 l01 l11 l21 W h01 h11 h21).mono fun _ _ h => h.dec)
    (fun W u01 u11 u21 h01 h11 h21 _ _ _ => (implSandwich n0 n1 n2 u01 u11 u21 l01 l11 l21 W h01 h11 h21).mono fun _ _ h => h.dec)

set_option maxRecDepth 100000 in
theorem lifted (os : Os) (started : os.Started) (H : Type) (enc : TypeId × Value → H) :
    ReturnsInHanded {} Try.checked os 9 .any (Rows.fnExactIsSandwichSpec.pre6 enc Try.prog Try.f9 Rows.fnExactIsSandwichRow.domain false) (Rows.fnExactIsSandwichSpec.post enc Try.prog Try.f9 false true false false) := by
  refine returnsInHanded_of_change (C := Try.checked) own started (by kernel_rfl) Try.func9
    (ChangeSpec.witness6 (enc := enc) (C := Try.checked) false ⟨#[], #[.agg #[.int .i64 0, .slice none 0 0], .agg #[.int .i64 0, .slice none 0 0], .agg #[.int .i64 0, .slice none 0 0]], []⟩ 8 (by kernel_rfl) (by kernel_rfl) (by kernel_rfl) (by kernel_rfl)) ?_
  intro W base args ds gs before hval0 hW hcnd _
  have hval : ∀ (j : Nat) t v, Try.f9.params[j]? = some t → args[j]? = some v → Value.okWide Try.prog W .any base t v := hval0
  have hW' := hW
  obtain ⟨p, q, hA0, hV, rfl, hfz, hnd⟩ := hW
  have hA : DataW.TrodAll enc Try.prog W 0 (fun _ => true) true Try.f9.params.toList args.toList ds p := hA0
  rw [Try.params9] at hA hval
  obtain ⟨v0, vs0, d0, ds0, p0, q0, hargs, rfl, rfl, h0, r0⟩ := trodAll_cons hA
  obtain ⟨v1, vs1, d1, ds1, p1, q1, rfl, rfl, rfl, h1, r1⟩ := trodAll_cons r0
  obtain ⟨v2, vs2, d2, ds2, p2, q2, rfl, rfl, rfl, h2, r2⟩ := trodAll_cons r1
  obtain ⟨rfl, rfl, rfl⟩ := trodAll_nil r2
  obtain rfl : args = #[v0, v1, v2] := by cases args; simp_all
  obtain ⟨rfl, rfl⟩ := trodVars_none hV
  have k0 := h0
  obtain ⟨n0, u01, l01, rfl, w0, x01⟩ := open_is Try.underlying48 (by kernel_rfl) (by kernel_rfl) Try.underlying3 Try.underlying22 Try.underlying3 (by kernel_rfl) (hval 0 48 v0 rfl rfl) h0
  have k1 := h1
  obtain ⟨n1, u11, l11, rfl, w1, x11⟩ := open_is Try.underlying48 (by kernel_rfl) (by kernel_rfl) Try.underlying3 Try.underlying22 Try.underlying3 (by kernel_rfl) (hval 1 48 v1 rfl rfl) h1
  have k2 := h2
  obtain ⟨n2, u21, l21, rfl, w2, x21⟩ := open_is Try.underlying48 (by kernel_rfl) (by kernel_rfl) Try.underlying3 Try.underlying22 Try.underlying3 (by kernel_rfl) (hval 2 48 v2 rfl rfl) h2
  clear hA0 hval0
  refine (walk n0 u01 l01 n1 u11 l11 n2 u21 l21 W w0 x01 w1 x11 w2 x21).mono fun e W' ⟨he, bel⟩ => ?_
  subst he
  exact ⟨_, rfl, _, _, _, [], _, [], hW', (trodAll_cons_mk (shut_bool Try.underlying4 _) trodAll_mk0), (trodAll_cons_mk (Below.trod laidOut (by kernel_rfl) (of_decide_eq_true (by kernel_rfl)) k0 bel (lt_of_trod k0)) (trodAll_cons_mk (Below.trod laidOut (by kernel_rfl) (of_decide_eq_true (by kernel_rfl)) k1 bel (lt_of_trod k1)) (trodAll_cons_mk (Below.trod laidOut (by kernel_rfl) (of_decide_eq_true (by kernel_rfl)) k2 bel (lt_of_trod k2)) trodAll_mk0))), rfl, bel.frame _, fun h => by cases h⟩

theorem proved : Rows.FnExactIsSandwichSaid :=
  OpenClaim.holds_of_wide 9 Try.f9 rfl rfl rfl rfl rfl rfl rfl ⟨rfl, rfl, rfl, rfl, rfl⟩ rfl rfl rfl rfl rfl (by kernel_rfl) Try.func9 (by kernel_rfl)
    (of_decide_eq_true (by kernel_rfl)) (by unfold Func.isWrapper; first | (rw [if_pos (by decide +kernel)]; kernel_rfl) | (rw [if_neg (by decide +kernel)]; exact ⟨rfl, rfl⟩))
    (fun os started H enc _ => lifted os started H enc)
#print axioms proved
end Go.Proofs.Ytbmpljclplddeaa.fnExactIsSandwich
