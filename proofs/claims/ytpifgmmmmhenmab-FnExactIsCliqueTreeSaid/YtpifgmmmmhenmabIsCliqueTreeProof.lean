/- At every graph and tree IsCliqueTree answers as its specification and writes into no argument. -/
import Derived.Test.YtpifgmmmmhenmabRows
import Derived.Test.YtpifgmmmmhenmabSh
import Derived.Test.YtpifgmmmmhenmabBx
import Derived.Test.YtpifgmmmmhenmabGl
import Derived.Test.YtpifgmmmmhenmabBt
import Derived.Test.YtpifgmmmmhenmabBx
import Derived.Test.YtpifgmmmmhenmabHw
import Derived.WalkKit
import Derived.Lib.LaidTab
import Derived.ProofKit
import Derived.LaidMore
import Derived.OpenShut
import Derived.ShutString
import Derived.ChangeOld
import Derived.Below
import Derived.Stop.Joined
import Derived.Stop.LaidErr
namespace Go.Proofs.Ytpifgmmmmhenmab.fnExactIsCliqueTree
open Go.ChangeShapes Go.WideShapes Go.ChangeAt Go.RowKit
open Go.ChangeMaps (open_string shut_string)
set_option linter.unusedVariables false

theorem own : ownKnob Try.prog.godebug = none := by kernel_rfl

theorem laidOut : laidOutB Try.prog = true := by kernel_rfl

set_option maxHeartbeats 4000000 in
set_option maxRecDepth 100000 in
theorem core (n0 : Int) (v01 : Value) (l01 : List Int) (v10 : Value) (l10 : List Int) (v11 : Value) (l11 : List Int) (w : World) (w0 : (Lit.int .i64 n0).wf = true) (x01 : Ints w v01 l01) (x10 : Ints w v10 l10) (x11 : Ints w v11 l11) (r0 : Bool) (hbig : (l01.length : Int) + (l10.length : Int) + (l11.length : Int) ≤ 1048576)
    (hs : ∀ (W : World) (u01 : Value) (u10 : Value) (u11 : Value), Ints W u01 l01 → Ints W u10 l10 → Ints W u11 l11 → (u01 = .slice none 0 0 ∨ ∃ ad cap, u01 = .slice (some ad) l01.length cap) → (u10 = .slice none 0 0 ∨ ∃ ad cap, u10 = .slice (some ad) l10.length cap) → (u11 = .slice none 0 0 ∨ ∃ ad cap, u11 = .slice (some ad) l11.length cap) → Calls Try.prog 24 #[.agg #[.int .i64 n0, u01], .agg #[u10, u11]] W (fun e W' => e = .returned (.bool r0) ∧ Below W.heap.size W W'))
    (hi : ∀ (W : World) (u01 : Value) (u10 : Value) (u11 : Value), Ints W u01 l01 → Ints W u10 l10 → Ints W u11 l11 → (u01 = .slice none 0 0 ∨ ∃ ad cap, u01 = .slice (some ad) l01.length cap) → (u10 = .slice none 0 0 ∨ ∃ ad cap, u10 = .slice (some ad) l10.length cap) → (u11 = .slice none 0 0 ∨ ∃ ad cap, u11 = .slice (some ad) l11.length cap) → Calls Try.prog 26 #[.agg #[.int .i64 n0, u01], .agg #[u10, u11]] W (fun e W' => e = .returned (.bool r0) ∧ Below W.heap.size W W')) :
    Calls Try.prog 6 #[.agg #[.int .i64 n0, v01], .agg #[v10, v11]] w fun e w' => e = .returned (.bool true) ∧ Below w.heap.size w w' := by
  obtain ⟨a01, cap01, rfl, -, hm01⟩ := x01.form
  have HX01 := Lib.hid x01
  unfold maxLen at hm01
  clear hm01
  obtain ⟨a10, cap10, rfl, -, hm10⟩ := x10.form
  have HX10 := Lib.hid x10
  unfold maxLen at hm10
  clear hm10
  obtain ⟨a11, cap11, rfl, -, hm11⟩ := x11.form
  have HX11 := Lib.hid x11
  unfold maxLen at hm11
  clear hm11
  have HS := Lib.hid hs
  have HI := Lib.hid hi
  clear hs hi w0 x01 x10 x11 
  have hne0 : (r0 != r0) = false := by simp
  have hp01 : (0 : Int) ≤ 1048576 - l01.length := by omega
  have hp10 : (0 : Int) ≤ 1048576 - l01.length - l10.length := by omega
  have hp11 : (0 : Int) ≤ 1048576 - l01.length - l10.length - l11.length := by omega
  have hl901 : l01.length ≤ 100000000 := by omega
  have hl601 : l01.length ≤ 1048576 := by omega
  have hl910 : l10.length ≤ 100000000 := by omega
  have hl610 : l10.length ≤ 1048576 := by omega
  have hl911 : l11.length ≤ 100000000 := by omega
  have hl611 : l11.length ≤ 1048576 := by omega
  have BA0_0 := Lib.hid (show Box (w.heap.size) [.int .i64 n0, .slice a01 l01.length cap01] ((w.alloc (.cells #[.int .i64 n0, .slice a01 l01.length cap01] 24)).alloc (.cells #[.slice a10 l10.length cap10, .slice a11 l11.length cap11] 39)) from ((Box.new w 24 [.int .i64 n0, .slice a01 l01.length cap01]).keep (grown_alloc _ (.cells #[.slice a10 l10.length cap10, .slice a11 l11.length cap11] 39) none) (by simp)))
  have BA1_0 := Lib.hid (show Box (w.heap.size + 1) [.slice a10 l10.length cap10, .slice a11 l11.length cap11] ((w.alloc (.cells #[.int .i64 n0, .slice a01 l01.length cap01] 24)).alloc (.cells #[.slice a10 l10.length cap10, .slice a11 l11.length cap11] 39)) by have h := (Box.new (w.alloc (.cells #[.int .i64 n0, .slice a01 l01.length cap01] 24)) 39 [.slice a10 l10.length cap10, .slice a11 l11.length cap11]); simpa using h)
  have F0 := Lib.hid (show Below w.heap.size w ((w.alloc (.cells #[.int .i64 n0, .slice a01 l01.length cap01] 24)).alloc (.cells #[.slice a10 l10.length cap10, .slice a11 l11.length cap11] 39)) from (((Below.refl _ w).alloc (Nat.le_refl _) (.cells #[.int .i64 n0, .slice a01 l01.length cap01] 24)).alloc (by simp <;> omega) (.cells #[.slice a10 l10.length cap10, .slice a11 l11.length cap11] 39)))
  go_enter Try.func6, Try.ntmps6
  have cA00 : ((w.alloc (.cells #[.int .i64 n0, .slice a01 l01.length cap01] 24)).alloc (.cells #[.slice a10 l10.length cap10, .slice a11 l11.length cap11] 39)).cell? ⟨w.heap.size, 0, none⟩ = some (.int .i64 n0) := BA0_0.out.1 0 _ rfl
  have cA01 : ((w.alloc (.cells #[.int .i64 n0, .slice a01 l01.length cap01] 24)).alloc (.cells #[.slice a10 l10.length cap10, .slice a11 l11.length cap11] 39)).cell? ⟨w.heap.size, 1, none⟩ = some (.slice a01 l01.length cap01) := BA0_0.out.1 1 _ rfl
  have cA0z := BA0_0.out.2.2
  go_wp2_with fail
  refine (szGraph_fits n0 _ l01 _ _ (HX01.out.on F0.out) (by omega) (by omega)).mono ?_
  rintro e w1 ⟨rfl, hb⟩
  have BA0_1 := Lib.hid (BA0_0.out.on hb)
  have BA1_1 := Lib.hid (BA1_0.out.on hb)
  have F1 := Lib.hid (F0.out.trans (hb.mono F0.out.size))
  have hz0 : w.heap.size + 2 ≤ w1.heap.size := BA1_1.out.2.2
  clear BA0_0 BA1_0 F0 hb cA00 cA01 cA0z
  have cA10 : w1.cell? ⟨w.heap.size + 1, 0, none⟩ = some (.slice a10 l10.length cap10) := BA1_1.out.1 0 _ rfl
  have cA11 : w1.cell? ⟨w.heap.size + 1, 1, none⟩ = some (.slice a11 l11.length cap11) := BA1_1.out.1 1 _ rfl
  have cA1z := BA1_1.out.2.2
  go_wp2_with fail
  refine (szTree_fits _ _ l10 l11 _ _ (HX10.out.on F1.out) (HX11.out.on F1.out) (by omega) (by omega)).mono ?_
  rintro e w2 ⟨rfl, hb⟩
  have BA0_2 := Lib.hid (BA0_1.out.on hb)
  have BA1_2 := Lib.hid (BA1_1.out.on hb)
  have F2 := Lib.hid (F1.out.trans (hb.mono F1.out.size))
  have hz1 : w1.heap.size ≤ w2.heap.size := hb.size
  clear BA0_1 BA1_1 F1 hb cA10 cA11 cA1z
  have HR : Hid (∀ W, Below w2.heap.size w2 W → W.cell? ⟨w.heap.size, 0, none⟩ = some (.int .i64 n0) ∧ W.cell? ⟨w.heap.size, 1, none⟩ = some (.slice a01 l01.length cap01) ∧ W.cell? ⟨w.heap.size + 1, 0, none⟩ = some (.slice a10 l10.length cap10) ∧ W.cell? ⟨w.heap.size + 1, 1, none⟩ = some (.slice a11 l11.length cap11) ∧ Ints W (.slice a01 l01.length cap01) l01 ∧ Ints W (.slice a10 l10.length cap10) l10 ∧ Ints W (.slice a11 l11.length cap11) l11 ∧ Below w2.heap.size w2 W) := fun W hb => ⟨(BA0_2.out.on hb).1 0 _ rfl, (BA0_2.out.on hb).1 1 _ rfl, (BA1_2.out.on hb).1 0 _ rfl, (BA1_2.out.on hb).1 1 _ rfl, HX01.out.on (F2.out.trans (hb.mono F2.out.size)), HX10.out.on (F2.out.trans (hb.mono F2.out.size)), HX11.out.on (F2.out.trans (hb.mono F2.out.size)), hb⟩
  go_wp2
  go_region_held3 (fun w' => w'.cell? ⟨w.heap.size, 0, none⟩ = some (.int .i64 n0) ∧ w'.cell? ⟨w.heap.size, 1, none⟩ = some (.slice a01 l01.length cap01) ∧ w'.cell? ⟨w.heap.size + 1, 0, none⟩ = some (.slice a10 l10.length cap10) ∧ w'.cell? ⟨w.heap.size + 1, 1, none⟩ = some (.slice a11 l11.length cap11) ∧ Ints w' (.slice a01 l01.length cap01) l01 ∧ Ints w' (.slice a10 l10.length cap10) l10 ∧ Ints w' (.slice a11 l11.length cap11) l11 ∧ Below w2.heap.size w2 w')
    (first | exact HR.out _ (Below.refl _ _).drew | exact HR.out _ (Below.refl _ _) | (go_split_ands; exact HR.out _ (btrans (by assumption) hb)))
    (first
      | ((go_at_call 11); go_split_ands; refine (toGraph_any n0 _ l01 _ (by assumption) hl601).mono ?_; rintro e wa0 ⟨tw01, rfl, ho01, hb⟩; (first | (replace ho10 := ho10.keep (below_grown hb) (by simp)) | skip); (first | (replace ho11 := ho11.keep (below_grown hb) (by simp)) | skip))
      | ((go_at_call 25); go_split_ands; refine (toTree_any _ _ l10 l11 _ (by assumption) (by assumption) hl610 hl611).mono ?_; rintro e wa1 ⟨tw10, tw11, K11, rfl, ho10, ho11, le11, lt11, hb⟩; (first | (replace ho01 := ho01.keep (below_grown hb) (by simp)) | skip))
      | (go_at_call 24; go_split_ands; refine (HS.out _ _ _ _ ho01.ints ho10.ints ho11.ints ho01.nilform ho10.nilform ho11.nilform).mono ?_; rintro e w3 ⟨rfl, hb⟩))
  go_split_ands
  have hbE : Below w2.heap.size w2 w3 := by assumption
  have BA0_3 := Lib.hid (BA0_2.out.on hbE)
  have BA1_3 := Lib.hid (BA1_2.out.on hbE)
  have F3 := Lib.hid (F2.out.trans (hbE.mono F2.out.size))
  have hz2 : w2.heap.size ≤ w3.heap.size := hbE.size
  clear BA0_2 BA1_2 F2 HR hbE hb ho01 ho10 ho11
  have cA00 : w3.cell? ⟨w.heap.size, 0, none⟩ = some (.int .i64 n0) := BA0_3.out.1 0 _ rfl
  have cA01 : w3.cell? ⟨w.heap.size, 1, none⟩ = some (.slice a01 l01.length cap01) := BA0_3.out.1 1 _ rfl
  have cA0z := BA0_3.out.2.2
  go_wp2_with fail
  refine (toGraph_any n0 _ l01 _ (HX01.out.on F3.out) hl601).mono ?_
  rintro e w4 ⟨vx01, rfl, ho01, hb⟩
  have BA0_4 := Lib.hid (BA0_3.out.on hb)
  have BA1_4 := Lib.hid (BA1_3.out.on hb)
  have F4 := Lib.hid (F3.out.trans (hb.mono F3.out.size))
  have hz3 : w3.heap.size ≤ w4.heap.size := hb.size
  have OX01_4 := Lib.hid (show OwnR w3.heap.size w4.heap.size w4 (vx01) l01 from ⟨ho01, fun k hk => (ho01.lt k hk).2⟩)
  clear BA0_3 BA1_3 F3 hb ho01 cA00 cA01 cA0z
  obtain ⟨ax01, capx01, hvx01⟩ : ∃ a c, vx01 = .slice a l01.length c := by obtain ⟨a, c, h, -, -⟩ := OX01_4.out.1.ints.form; exact ⟨a, c, h⟩
  subst hvx01
  obtain ⟨w5, hw5⟩ : ∃ w5, w5 = w4.alloc (.cells #[.int .i64 n0, .slice ax01 l01.length capx01] 27) := ⟨_, rfl⟩
  have hb : Below w4.heap.size w4 w5 := by rw [hw5]; exact (Below.refl _ _).alloc (Nat.le_refl _) _
  have hzs4 : w4.heap.size < w5.heap.size := by rw [hw5]; simp
  have cA10 : w4.cell? ⟨w.heap.size + 1, 0, none⟩ = some (.slice a10 l10.length cap10) := BA1_4.out.1 0 _ rfl
  have cA11 : w4.cell? ⟨w.heap.size + 1, 1, none⟩ = some (.slice a11 l11.length cap11) := BA1_4.out.1 1 _ rfl
  have cA1z := BA1_4.out.2.2
  have BA0_5 := Lib.hid (BA0_4.out.on hb)
  have BA1_5 := Lib.hid (BA1_4.out.on hb)
  have OX01_5 := Lib.hid (OX01_4.out.on hb)
  have F5 := Lib.hid (F4.out.trans (hb.mono F4.out.size))
  have hz4 : w4.heap.size ≤ w5.heap.size := hb.size
  have BX0_5 := Lib.hid (show Box w4.heap.size [.int .i64 n0, .slice ax01 l01.length capx01] w5 by rw [hw5]; exact Box.new w4 _ _)
  go_wp2_with fail
  rw [← hw5]
  clear BA0_4 BA1_4 OX01_4 F4 hb hw5 cA10 cA11 cA1z
  refine (toTree_any _ _ l10 l11 _ (HX10.out.on F5.out) (HX11.out.on F5.out) hl610 hl611).mono ?_
  rintro e w6 ⟨vx10, vx11, K11, rfl, ho10, ho11, le11, lt11, hb⟩
  have BA0_6 := Lib.hid (BA0_5.out.on hb)
  have BA1_6 := Lib.hid (BA1_5.out.on hb)
  have BX0_6 := Lib.hid (BX0_5.out.on hb)
  have OX01_6 := Lib.hid (OX01_5.out.on hb)
  have F6 := Lib.hid (F5.out.trans (hb.mono F5.out.size))
  have hz5 : w5.heap.size ≤ w6.heap.size := hb.size
  replace ho11 := ho11.mono (le11)
  have OX10_6 := Lib.hid (show OwnR w5.heap.size w6.heap.size w6 (vx10) l10 from ⟨ho10, fun k hk => (ho10.lt k hk).2⟩)
  have OX11_6 := Lib.hid (show OwnR w5.heap.size w6.heap.size w6 (vx11) l11 from ⟨ho11, fun k hk => (ho11.lt k hk).2⟩)
  clear BA0_5 BA1_5 BX0_5 OX01_5 F5 hb ho10 ho11 le11 lt11
  obtain ⟨ax10, capx10, hvx10⟩ : ∃ a c, vx10 = .slice a l10.length c := by obtain ⟨a, c, h, -, -⟩ := OX10_6.out.1.ints.form; exact ⟨a, c, h⟩
  subst hvx10
  obtain ⟨ax11, capx11, hvx11⟩ : ∃ a c, vx11 = .slice a l11.length c := by obtain ⟨a, c, h, -, -⟩ := OX11_6.out.1.ints.form; exact ⟨a, c, h⟩
  subst hvx11
  obtain ⟨w7, hw7⟩ : ∃ w7, w7 = w6.alloc (.cells #[.slice ax10 l10.length capx10, .slice ax11 l11.length capx11] 42) := ⟨_, rfl⟩
  have hb : Below w6.heap.size w6 w7 := by rw [hw7]; exact (Below.refl _ _).alloc (Nat.le_refl _) _
  have hzs6 : w6.heap.size < w7.heap.size := by rw [hw7]; simp
  have cX00 : w6.cell? ⟨w4.heap.size, 0, none⟩ = some (.int .i64 n0) := BX0_6.out.1 0 _ rfl
  have cX01 : w6.cell? ⟨w4.heap.size, 1, none⟩ = some (.slice ax01 l01.length capx01) := BX0_6.out.1 1 _ rfl
  have cX0z := BX0_6.out.2.2
  have BA0_7 := Lib.hid (BA0_6.out.on hb)
  have BA1_7 := Lib.hid (BA1_6.out.on hb)
  have BX0_7 := Lib.hid (BX0_6.out.on hb)
  have OX01_7 := Lib.hid (OX01_6.out.on hb)
  have OX10_7 := Lib.hid (OX10_6.out.on hb)
  have OX11_7 := Lib.hid (OX11_6.out.on hb)
  have F7 := Lib.hid (F6.out.trans (hb.mono F6.out.size))
  have hz6 : w6.heap.size ≤ w7.heap.size := hb.size
  have BX1_7 := Lib.hid (show Box w6.heap.size [.slice ax10 l10.length capx10, .slice ax11 l11.length capx11] w7 by rw [hw7]; exact Box.new w6 _ _)
  go_wp2_with fail
  rw [← hw7]
  clear BA0_6 BA1_6 BX0_6 OX01_6 OX10_6 OX11_6 F6 hb hw7 cX00 cX01 cX0z
  refine (HI.out _ _ _ _ OX01_7.out.1.ints OX10_7.out.1.ints OX11_7.out.1.ints OX01_7.out.1.nilform OX10_7.out.1.nilform OX11_7.out.1.nilform).mono ?_
  rintro e w8 ⟨rfl, hb⟩
  have BA0_8 := Lib.hid (BA0_7.out.on hb)
  have BA1_8 := Lib.hid (BA1_7.out.on hb)
  have BX0_8 := Lib.hid (BX0_7.out.on hb)
  have BX1_8 := Lib.hid (BX1_7.out.on hb)
  have OX01_8 := Lib.hid (OX01_7.out.on hb)
  have OX10_8 := Lib.hid (OX10_7.out.on hb)
  have OX11_8 := Lib.hid (OX11_7.out.on hb)
  have F8 := Lib.hid (F7.out.trans (hb.mono F7.out.size))
  have hz7 : w7.heap.size ≤ w8.heap.size := hb.size
  clear BA0_7 BA1_7 BX0_7 BX1_7 OX01_7 OX10_7 OX11_7 F7 hb
  have HR : Hid (∀ W, Below w8.heap.size w8 W → W.cell? ⟨w.heap.size, 0, none⟩ = some (.int .i64 n0) ∧ W.cell? ⟨w.heap.size, 1, none⟩ = some (.slice a01 l01.length cap01) ∧ W.cell? ⟨w4.heap.size, 0, none⟩ = some (.int .i64 n0) ∧ W.cell? ⟨w4.heap.size, 1, none⟩ = some (.slice ax01 l01.length capx01) ∧ Ints W (.slice a01 l01.length cap01) l01 ∧ Ints W (.slice ax01 l01.length capx01) l01 ∧ Below w8.heap.size w8 W) := fun W hb => ⟨(BA0_8.out.on hb).1 0 _ rfl, (BA0_8.out.on hb).1 1 _ rfl, (BX0_8.out.on hb).1 0 _ rfl, (BX0_8.out.on hb).1 1 _ rfl, HX01.out.on (F8.out.trans (hb.mono F8.out.size)), (OX01_8.out.on hb).1.ints, hb⟩
  go_wp2
  go_region_held3 (fun w' => w'.cell? ⟨w.heap.size, 0, none⟩ = some (.int .i64 n0) ∧ w'.cell? ⟨w.heap.size, 1, none⟩ = some (.slice a01 l01.length cap01) ∧ w'.cell? ⟨w4.heap.size, 0, none⟩ = some (.int .i64 n0) ∧ w'.cell? ⟨w4.heap.size, 1, none⟩ = some (.slice ax01 l01.length capx01) ∧ Ints w' (.slice a01 l01.length cap01) l01 ∧ Ints w' (.slice ax01 l01.length capx01) l01 ∧ Below w8.heap.size w8 w')
    (first | exact HR.out _ (Below.refl _ _).drew | exact HR.out _ (Below.refl _ _) | (go_split_ands; exact HR.out _ (btrans (by assumption) hb)))
    (first
      | (go_at_call 11; go_split_ands; refine (toGraph_any n0 _ l01 _ (by assumption) hl601).mono ?_; rintro e wa ⟨vy01, rfl, ho01, hb⟩)
      | (go_at_call 14; go_split_ands; refine (eqGraph_same n0 _ _ l01 _ (by assumption) ho01.ints hl901).mono ?_; rintro e w9 ⟨rfl, hb⟩))
  go_split_ands
  have hbE : Below w8.heap.size w8 w9 := by assumption
  have BA0_9 := Lib.hid (BA0_8.out.on hbE)
  have BA1_9 := Lib.hid (BA1_8.out.on hbE)
  have BX0_9 := Lib.hid (BX0_8.out.on hbE)
  have BX1_9 := Lib.hid (BX1_8.out.on hbE)
  have OX01_9 := Lib.hid (OX01_8.out.on hbE)
  have OX10_9 := Lib.hid (OX10_8.out.on hbE)
  have OX11_9 := Lib.hid (OX11_8.out.on hbE)
  have F9 := Lib.hid (F8.out.trans (hbE.mono F8.out.size))
  have hz8 : w8.heap.size ≤ w9.heap.size := hbE.size
  clear BA0_8 BA1_8 BX0_8 BX1_8 OX01_8 OX10_8 OX11_8 F8 HR hbE hb ho01
  have HR : Hid (∀ W, Below w9.heap.size w9 W → W.cell? ⟨w.heap.size + 1, 0, none⟩ = some (.slice a10 l10.length cap10) ∧ W.cell? ⟨w.heap.size + 1, 1, none⟩ = some (.slice a11 l11.length cap11) ∧ W.cell? ⟨w6.heap.size, 0, none⟩ = some (.slice ax10 l10.length capx10) ∧ W.cell? ⟨w6.heap.size, 1, none⟩ = some (.slice ax11 l11.length capx11) ∧ Ints W (.slice a10 l10.length cap10) l10 ∧ Ints W (.slice a11 l11.length cap11) l11 ∧ Ints W (.slice ax10 l10.length capx10) l10 ∧ Ints W (.slice ax11 l11.length capx11) l11 ∧ Below w9.heap.size w9 W) := fun W hb => ⟨(BA1_9.out.on hb).1 0 _ rfl, (BA1_9.out.on hb).1 1 _ rfl, (BX1_9.out.on hb).1 0 _ rfl, (BX1_9.out.on hb).1 1 _ rfl, HX10.out.on (F9.out.trans (hb.mono F9.out.size)), HX11.out.on (F9.out.trans (hb.mono F9.out.size)), (OX10_9.out.on hb).1.ints, (OX11_9.out.on hb).1.ints, hb⟩
  go_wp2
  go_region_held3 (fun w' => w'.cell? ⟨w.heap.size + 1, 0, none⟩ = some (.slice a10 l10.length cap10) ∧ w'.cell? ⟨w.heap.size + 1, 1, none⟩ = some (.slice a11 l11.length cap11) ∧ w'.cell? ⟨w6.heap.size, 0, none⟩ = some (.slice ax10 l10.length capx10) ∧ w'.cell? ⟨w6.heap.size, 1, none⟩ = some (.slice ax11 l11.length capx11) ∧ Ints w' (.slice a10 l10.length cap10) l10 ∧ Ints w' (.slice a11 l11.length cap11) l11 ∧ Ints w' (.slice ax10 l10.length capx10) l10 ∧ Ints w' (.slice ax11 l11.length capx11) l11 ∧ Below w9.heap.size w9 w')
    (first | exact HR.out _ (Below.refl _ _).drew | exact HR.out _ (Below.refl _ _) | (go_split_ands; exact HR.out _ (btrans (by assumption) hb)))
    (first
      | (go_at_call 25; go_split_ands; refine (toTree_any _ _ l10 l11 _ (by assumption) (by assumption) hl610 hl611).mono ?_; rintro e wa ⟨vy10, vy11, K11, rfl, ho10, ho11, le11, lt11, hb⟩)
      | (go_at_call 27; go_split_ands; refine (eqTree_same _ _ _ _ l10 l11 _ (by assumption) (by assumption) ho10.ints ho11.ints hl910 hl911).mono ?_; rintro e w10 ⟨rfl, hb⟩))
  go_split_ands
  have hbE : Below w9.heap.size w9 w10 := by assumption
  have BA0_10 := Lib.hid (BA0_9.out.on hbE)
  have BA1_10 := Lib.hid (BA1_9.out.on hbE)
  have BX0_10 := Lib.hid (BX0_9.out.on hbE)
  have BX1_10 := Lib.hid (BX1_9.out.on hbE)
  have OX01_10 := Lib.hid (OX01_9.out.on hbE)
  have OX10_10 := Lib.hid (OX10_9.out.on hbE)
  have OX11_10 := Lib.hid (OX11_9.out.on hbE)
  have F10 := Lib.hid (F9.out.trans (hbE.mono F9.out.size))
  have hz9 : w9.heap.size ≤ w10.heap.size := hbE.size
  clear BA0_9 BA1_9 BX0_9 BX1_9 OX01_9 OX10_9 OX11_9 F9 HR hbE hb ho10 ho11 le11 lt11
  go_wp2
  go_ret
  exact ⟨rfl, F10.out⟩

set_option maxHeartbeats 1000000 in
set_option maxRecDepth 100000 in
theorem walk (n0 : Int) (v01 : Value) (l01 : List Int) (v10 : Value) (l10 : List Int) (v11 : Value) (l11 : List Int) (w : World) (w0 : (Lit.int .i64 n0).wf = true) (x01 : Ints w v01 l01) (x10 : Ints w v10 l10) (x11 : Ints w v11 l11) : Calls Try.prog 6 #[.agg #[.int .i64 n0, v01], .agg #[v10, v11]] w fun e w' => e = .returned (.bool true) ∧ Below w.heap.size w w' := by
  by_cases hb0 : 1048576 < (l01.length : Int)
  · skip
    obtain ⟨a01, cap01, rfl, -, hm01⟩ := x01.form
    have HX01 := Lib.hid x01
    obtain ⟨a10, cap10, rfl, -, hm10⟩ := x10.form
    have HX10 := Lib.hid x10
    obtain ⟨a11, cap11, rfl, -, hm11⟩ := x11.form
    have HX11 := Lib.hid x11
    clear w0 x01 x10 x11 
    have BA0_0 := Lib.hid (show Box (w.heap.size) [.int .i64 n0, .slice a01 l01.length cap01] ((w.alloc (.cells #[.int .i64 n0, .slice a01 l01.length cap01] 24)).alloc (.cells #[.slice a10 l10.length cap10, .slice a11 l11.length cap11] 39)) from ((Box.new w 24 [.int .i64 n0, .slice a01 l01.length cap01]).keep (grown_alloc _ (.cells #[.slice a10 l10.length cap10, .slice a11 l11.length cap11] 39) none) (by simp)))
    have BA1_0 := Lib.hid (show Box (w.heap.size + 1) [.slice a10 l10.length cap10, .slice a11 l11.length cap11] ((w.alloc (.cells #[.int .i64 n0, .slice a01 l01.length cap01] 24)).alloc (.cells #[.slice a10 l10.length cap10, .slice a11 l11.length cap11] 39)) by have h := (Box.new (w.alloc (.cells #[.int .i64 n0, .slice a01 l01.length cap01] 24)) 39 [.slice a10 l10.length cap10, .slice a11 l11.length cap11]); simpa using h)
    have F0 := Lib.hid (show Below w.heap.size w ((w.alloc (.cells #[.int .i64 n0, .slice a01 l01.length cap01] 24)).alloc (.cells #[.slice a10 l10.length cap10, .slice a11 l11.length cap11] 39)) from (((Below.refl _ w).alloc (Nat.le_refl _) (.cells #[.int .i64 n0, .slice a01 l01.length cap01] 24)).alloc (by simp <;> omega) (.cells #[.slice a10 l10.length cap10, .slice a11 l11.length cap11] 39)))
    go_enter Try.func6, Try.ntmps6
    have cc00 : ((w.alloc (.cells #[.int .i64 n0, .slice a01 l01.length cap01] 24)).alloc (.cells #[.slice a10 l10.length cap10, .slice a11 l11.length cap11] 39)).cell? ⟨w.heap.size, 0, none⟩ = some (.int .i64 n0) := BA0_0.out.1 0 _ rfl
    have cc01 : ((w.alloc (.cells #[.int .i64 n0, .slice a01 l01.length cap01] 24)).alloc (.cells #[.slice a10 l10.length cap10, .slice a11 l11.length cap11] 39)).cell? ⟨w.heap.size, 1, none⟩ = some (.slice a01 l01.length cap01) := BA0_0.out.1 1 _ rfl
    go_wp2_with fail
    refine (szGraph_over n0 _ l01 _ _ (HX01.out.on F0.out) (by omega) (by omega)).mono ?_
    rintro e w1 ⟨rfl, hb⟩
    have BA0_1 := Lib.hid (BA0_0.out.on hb)
    have BA1_1 := Lib.hid (BA1_0.out.on hb)
    have F1 := Lib.hid (F0.out.trans (hb.mono F0.out.size))
    clear hb BA0_0 BA1_0 F0 cc00 cc01
    go_wp2
    go_ret
    exact ⟨rfl, F1.out⟩
  by_cases hb1 : 1048576 < (l01.length : Int) + (l10.length : Int) + (l11.length : Int)
  · skip
    obtain ⟨a01, cap01, rfl, -, hm01⟩ := x01.form
    have HX01 := Lib.hid x01
    obtain ⟨a10, cap10, rfl, -, hm10⟩ := x10.form
    have HX10 := Lib.hid x10
    obtain ⟨a11, cap11, rfl, -, hm11⟩ := x11.form
    have HX11 := Lib.hid x11
    clear w0 x01 x10 x11 
    have hp01 : (0 : Int) ≤ 1048576 - l01.length := by omega
    have BA0_0 := Lib.hid (show Box (w.heap.size) [.int .i64 n0, .slice a01 l01.length cap01] ((w.alloc (.cells #[.int .i64 n0, .slice a01 l01.length cap01] 24)).alloc (.cells #[.slice a10 l10.length cap10, .slice a11 l11.length cap11] 39)) from ((Box.new w 24 [.int .i64 n0, .slice a01 l01.length cap01]).keep (grown_alloc _ (.cells #[.slice a10 l10.length cap10, .slice a11 l11.length cap11] 39) none) (by simp)))
    have BA1_0 := Lib.hid (show Box (w.heap.size + 1) [.slice a10 l10.length cap10, .slice a11 l11.length cap11] ((w.alloc (.cells #[.int .i64 n0, .slice a01 l01.length cap01] 24)).alloc (.cells #[.slice a10 l10.length cap10, .slice a11 l11.length cap11] 39)) by have h := (Box.new (w.alloc (.cells #[.int .i64 n0, .slice a01 l01.length cap01] 24)) 39 [.slice a10 l10.length cap10, .slice a11 l11.length cap11]); simpa using h)
    have F0 := Lib.hid (show Below w.heap.size w ((w.alloc (.cells #[.int .i64 n0, .slice a01 l01.length cap01] 24)).alloc (.cells #[.slice a10 l10.length cap10, .slice a11 l11.length cap11] 39)) from (((Below.refl _ w).alloc (Nat.le_refl _) (.cells #[.int .i64 n0, .slice a01 l01.length cap01] 24)).alloc (by simp <;> omega) (.cells #[.slice a10 l10.length cap10, .slice a11 l11.length cap11] 39)))
    go_enter Try.func6, Try.ntmps6
    have cc00 : ((w.alloc (.cells #[.int .i64 n0, .slice a01 l01.length cap01] 24)).alloc (.cells #[.slice a10 l10.length cap10, .slice a11 l11.length cap11] 39)).cell? ⟨w.heap.size, 0, none⟩ = some (.int .i64 n0) := BA0_0.out.1 0 _ rfl
    have cc01 : ((w.alloc (.cells #[.int .i64 n0, .slice a01 l01.length cap01] 24)).alloc (.cells #[.slice a10 l10.length cap10, .slice a11 l11.length cap11] 39)).cell? ⟨w.heap.size, 1, none⟩ = some (.slice a01 l01.length cap01) := BA0_0.out.1 1 _ rfl
    go_wp2_with fail
    refine (szGraph_fits n0 _ l01 _ _ (HX01.out.on F0.out) (by omega) (by omega)).mono ?_
    rintro e w1 ⟨rfl, hb⟩
    have BA0_1 := Lib.hid (BA0_0.out.on hb)
    have BA1_1 := Lib.hid (BA1_0.out.on hb)
    have F1 := Lib.hid (F0.out.trans (hb.mono F0.out.size))
    clear hb BA0_0 BA1_0 F0 cc00 cc01
    have cc10 : w1.cell? ⟨w.heap.size + 1, 0, none⟩ = some (.slice a10 l10.length cap10) := BA1_1.out.1 0 _ rfl
    have cc11 : w1.cell? ⟨w.heap.size + 1, 1, none⟩ = some (.slice a11 l11.length cap11) := BA1_1.out.1 1 _ rfl
    go_wp2_with fail
    refine (szTree_over _ _ l10 l11 _ _ (HX10.out.on F1.out) (HX11.out.on F1.out) (by omega) (by omega) (by omega)).mono ?_
    rintro e w2 ⟨rfl, hb⟩
    have BA0_2 := Lib.hid (BA0_1.out.on hb)
    have BA1_2 := Lib.hid (BA1_1.out.on hb)
    have F2 := Lib.hid (F1.out.trans (hb.mono F1.out.size))
    clear hb BA0_1 BA1_1 F1 cc10 cc11
    go_wp2
    go_ret
    exact ⟨rfl, F2.out⟩
  exact core n0 v01 l01 v10 l10 v11 l11 w w0 x01 x10 x11 (decide (CtP n0 l01 l10 l11))  (by omega)
    (fun W u01 u10 u11 h01 h10 h11 _ _ _ => (specCt n0 u01 u10 u11 l01 l10 l11 W h01 h10 h11 (by omega) (by omega)).mono fun _ _ h => h.dec)
    (fun W u01 u10 u11 h01 h10 h11 _ f10 _ => (implCt n0 u01 u10 u11 l01 l10 l11 W f10 h01 h10 h11 (by omega) (by omega)).mono fun _ _ h => h.dec)

set_option maxRecDepth 100000 in
theorem lifted (os : Os) (started : os.Started) (H : Type) (enc : TypeId × Value → H) :
    ReturnsInHanded {} Try.checked os 6 .any (Rows.fnExactIsCliqueTreeSpec.pre6 enc Try.prog Try.f6 Rows.fnExactIsCliqueTreeRow.domain false) (Rows.fnExactIsCliqueTreeSpec.post enc Try.prog Try.f6 false true false false) := by
  refine returnsInHanded_of_change (C := Try.checked) own started (by kernel_rfl) Try.func6
    (ChangeSpec.witness6 (enc := enc) (C := Try.checked) false ⟨#[], #[.agg #[.int .i64 0, .slice none 0 0], .agg #[.slice none 0 0, .slice none 0 0]], []⟩ 8 (by kernel_rfl) (by kernel_rfl) (by kernel_rfl) (by kernel_rfl)) ?_
  intro W base args ds gs before hval0 hW hcnd _
  have hval : ∀ (j : Nat) t v, Try.f6.params[j]? = some t → args[j]? = some v → Value.okWide Try.prog W .any base t v := hval0
  have hW' := hW
  obtain ⟨p, q, hA0, hV, rfl, hfz, hnd⟩ := hW
  have hA : DataW.TrodAll enc Try.prog W 0 (fun _ => true) true Try.f6.params.toList args.toList ds p := hA0
  rw [Try.params6] at hA hval
  obtain ⟨v0, vs0, d0, ds0, p0, q0, hargs, rfl, rfl, h0, r0⟩ := trodAll_cons hA
  obtain ⟨v1, vs1, d1, ds1, p1, q1, rfl, rfl, rfl, h1, r1⟩ := trodAll_cons r0
  obtain ⟨rfl, rfl, rfl⟩ := trodAll_nil r1
  obtain rfl : args = #[v0, v1] := by cases args; simp_all
  obtain ⟨rfl, rfl⟩ := trodVars_none hV
  have k0 := h0
  obtain ⟨n0, u01, l01, rfl, w0, x01⟩ := open_is Try.underlying24 (by kernel_rfl) (by kernel_rfl) Try.underlying3 Try.underlying22 Try.underlying3 (by kernel_rfl) (hval 0 24 v0 rfl rfl) h0
  have k1 := h1
  obtain ⟨u10, l10, u11, l11, rfl, x10, x11⟩ := open_ss Try.underlying39 (by kernel_rfl) (by kernel_rfl) Try.underlying22 Try.underlying22 Try.underlying3 (by kernel_rfl) (hval 1 39 v1 rfl rfl) h1
  clear hA0 hval0
  refine (walk n0 u01 l01 u10 l10 u11 l11 W w0 x01 x10 x11).mono fun e W' ⟨he, bel⟩ => ?_
  subst he
  exact ⟨_, rfl, _, _, _, [], _, [], hW', (trodAll_cons_mk (shut_bool Try.underlying4 _) trodAll_mk0), (trodAll_cons_mk (Below.trod laidOut (by kernel_rfl) (of_decide_eq_true (by kernel_rfl)) k0 bel (lt_of_trod k0)) (trodAll_cons_mk (Below.trod laidOut (by kernel_rfl) (of_decide_eq_true (by kernel_rfl)) k1 bel (lt_of_trod k1)) trodAll_mk0)), rfl, bel.frame _, fun h => by cases h⟩

theorem proved : Rows.FnExactIsCliqueTreeSaid :=
  OpenClaim.holds_of_wide 6 Try.f6 rfl rfl rfl rfl rfl rfl rfl ⟨rfl, rfl, rfl, rfl, rfl⟩ rfl rfl rfl rfl rfl (by kernel_rfl) Try.func6 (by kernel_rfl)
    (of_decide_eq_true (by kernel_rfl)) (by unfold Func.isWrapper; first | (rw [if_pos (by decide +kernel)]; kernel_rfl) | (rw [if_neg (by decide +kernel)]; exact ⟨rfl, rfl⟩))
    (fun os started H enc _ => lifted os started H enc)
#print axioms proved
end Go.Proofs.Ytpifgmmmmhenmab.fnExactIsCliqueTree
