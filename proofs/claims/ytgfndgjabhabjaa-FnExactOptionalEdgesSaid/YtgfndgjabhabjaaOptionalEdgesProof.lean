/- For every two graphs OptionalEdges answers as its model: the edges of the second that the first lacks, in order, where the first lies within the second. -/
import Derived.Test.YtgfndgjabhabjaaRows
import Derived.Test.YtgfndgjabhabjaaSh
import Derived.Test.YtgfndgjabhabjaaBx
import Derived.Test.YtgfndgjabhabjaaGl
import Derived.Test.YtgfndgjabhabjaaBt
import Derived.Test.YtgfndgjabhabjaaBx
import Derived.Test.YtgfndgjabhabjaaOe
import Derived.WalkKit
import Derived.Lib.LaidTab
import Derived.ProofKit
import Derived.LaidMore
import Derived.OpenShut
import Derived.ShutString
import Derived.ChangeOld
import Derived.Below
import Derived.Stop.Joined
import Derived.Stop.LaidErr
namespace Go.Proofs.Ytgfndgjabhabjaa.fnExactOptionalEdges
open Go.ChangeShapes Go.WideShapes Go.ChangeAt Go.RowKit
open Go.ChangeMaps (open_string shut_string)
set_option linter.unusedVariables false

theorem own : ownKnob Try.prog.godebug = none := by kernel_rfl

theorem laidOut : laidOutB Try.prog = true := by kernel_rfl

set_option maxHeartbeats 4000000 in
set_option maxRecDepth 100000 in
theorem core (n0 : Int) (v01 : Value) (l01 : List Int) (n1 : Int) (v11 : Value) (l11 : List Int) (w : World) (w0 : (Lit.int .i64 n0).wf = true) (x01 : Ints w v01 l01) (w1 : (Lit.int .i64 n1).wf = true) (x11 : Ints w v11 l11) (l' : List (List Int)) (r1 : Bool) (hl' : l'.length ≤ 1000000) (ht' : tot l' ≤ 1000000) (hbig : (l01.length : Int) + (l11.length : Int) ≤ 1048576)
    (hs : ∀ (W : World) (u01 : Value) (u11 : Value), Ints W u01 l01 → Ints W u11 l11 → (u01 = .slice none 0 0 ∨ ∃ ad cap, u01 = .slice (some ad) l01.length cap) → (u11 = .slice none 0 0 ∨ ∃ ad cap, u11 = .slice (some ad) l11.length cap) → Calls Try.prog 40 #[.agg #[.int .i64 n0, u01], .agg #[.int .i64 n1, u11]] W (fun e W' => ∃ vr0, e = .returned (.tuple #[vr0, .bool r1]) ∧ OwnII W.heap.size W'.heap.size W' vr0 l' ∧ Below W.heap.size W W'))
    (hi : ∀ (W : World) (u01 : Value) (u11 : Value), Ints W u01 l01 → Ints W u11 l11 → (u01 = .slice none 0 0 ∨ ∃ ad cap, u01 = .slice (some ad) l01.length cap) → (u11 = .slice none 0 0 ∨ ∃ ad cap, u11 = .slice (some ad) l11.length cap) → Calls Try.prog 41 #[.agg #[.int .i64 n0, u01], .agg #[.int .i64 n1, u11]] W (fun e W' => ∃ vr0, e = .returned (.tuple #[vr0, .bool r1]) ∧ OwnII W.heap.size W'.heap.size W' vr0 l' ∧ Below W.heap.size W W')) :
    Calls Try.prog 7 #[.agg #[.int .i64 n0, v01], .agg #[.int .i64 n1, v11]] w fun e w' => e = .returned (.bool true) ∧ Below w.heap.size w w' := by
  obtain ⟨a01, cap01, rfl, -, hm01⟩ := x01.form
  have HX01 := Lib.hid x01
  unfold maxLen at hm01
  clear hm01
  obtain ⟨a11, cap11, rfl, -, hm11⟩ := x11.form
  have HX11 := Lib.hid x11
  unfold maxLen at hm11
  clear hm11
  have HS := Lib.hid hs
  have HI := Lib.hid hi
  clear hs hi w0 w1 x01 x11 
  have hne1 : (r1 != r1) = false := by simp
  have hp01 : (0 : Int) ≤ 1048576 - l01.length := by omega
  have hp11 : (0 : Int) ≤ 1048576 - l01.length - l11.length := by omega
  have hl901 : l01.length ≤ 100000000 := by omega
  have hl601 : l01.length ≤ 1048576 := by omega
  have hl911 : l11.length ≤ 100000000 := by omega
  have hl611 : l11.length ≤ 1048576 := by omega
  have BA0_0 := Lib.hid (show Box (w.heap.size) [.int .i64 n0, .slice a01 l01.length cap01] ((w.alloc (.cells #[.int .i64 n0, .slice a01 l01.length cap01] 39)).alloc (.cells #[.int .i64 n1, .slice a11 l11.length cap11] 39)) from ((Box.new w 39 [.int .i64 n0, .slice a01 l01.length cap01]).keep (grown_alloc _ (.cells #[.int .i64 n1, .slice a11 l11.length cap11] 39) none) (by simp)))
  have BA1_0 := Lib.hid (show Box (w.heap.size + 1) [.int .i64 n1, .slice a11 l11.length cap11] ((w.alloc (.cells #[.int .i64 n0, .slice a01 l01.length cap01] 39)).alloc (.cells #[.int .i64 n1, .slice a11 l11.length cap11] 39)) by have h := (Box.new (w.alloc (.cells #[.int .i64 n0, .slice a01 l01.length cap01] 39)) 39 [.int .i64 n1, .slice a11 l11.length cap11]); simpa using h)
  have F0 := Lib.hid (show Below w.heap.size w ((w.alloc (.cells #[.int .i64 n0, .slice a01 l01.length cap01] 39)).alloc (.cells #[.int .i64 n1, .slice a11 l11.length cap11] 39)) from (((Below.refl _ w).alloc (Nat.le_refl _) (.cells #[.int .i64 n0, .slice a01 l01.length cap01] 39)).alloc (by simp <;> omega) (.cells #[.int .i64 n1, .slice a11 l11.length cap11] 39)))
  go_enter Try.func7, Try.ntmps7
  have cA00 : ((w.alloc (.cells #[.int .i64 n0, .slice a01 l01.length cap01] 39)).alloc (.cells #[.int .i64 n1, .slice a11 l11.length cap11] 39)).cell? ⟨w.heap.size, 0, none⟩ = some (.int .i64 n0) := BA0_0.out.1 0 _ rfl
  have cA01 : ((w.alloc (.cells #[.int .i64 n0, .slice a01 l01.length cap01] 39)).alloc (.cells #[.int .i64 n1, .slice a11 l11.length cap11] 39)).cell? ⟨w.heap.size, 1, none⟩ = some (.slice a01 l01.length cap01) := BA0_0.out.1 1 _ rfl
  have cA0z := BA0_0.out.2.2
  go_wp2_with fail
  refine (szGraph_fits n0 _ l01 _ _ (HX01.out.on F0.out) (by omega) (by omega)).mono ?_
  rintro e w1 ⟨rfl, hb⟩
  have BA0_1 := Lib.hid (BA0_0.out.on hb)
  have BA1_1 := Lib.hid (BA1_0.out.on hb)
  have F1 := Lib.hid (F0.out.trans (hb.mono F0.out.size))
  have hz0 : w.heap.size + 2 ≤ w1.heap.size := BA1_1.out.2.2
  clear BA0_0 BA1_0 F0 hb cA00 cA01 cA0z
  have cA10 : w1.cell? ⟨w.heap.size + 1, 0, none⟩ = some (.int .i64 n1) := BA1_1.out.1 0 _ rfl
  have cA11 : w1.cell? ⟨w.heap.size + 1, 1, none⟩ = some (.slice a11 l11.length cap11) := BA1_1.out.1 1 _ rfl
  have cA1z := BA1_1.out.2.2
  go_wp2_with fail
  refine (szGraph_fits n1 _ l11 _ _ (HX11.out.on F1.out) (by omega) (by omega)).mono ?_
  rintro e w2 ⟨rfl, hb⟩
  have BA0_2 := Lib.hid (BA0_1.out.on hb)
  have BA1_2 := Lib.hid (BA1_1.out.on hb)
  have F2 := Lib.hid (F1.out.trans (hb.mono F1.out.size))
  have hz1 : w1.heap.size ≤ w2.heap.size := hb.size
  clear BA0_1 BA1_1 F1 hb cA10 cA11 cA1z
  have HR : Hid (∀ W, Below w2.heap.size w2 W → W.cell? ⟨w.heap.size, 0, none⟩ = some (.int .i64 n0) ∧ W.cell? ⟨w.heap.size, 1, none⟩ = some (.slice a01 l01.length cap01) ∧ W.cell? ⟨w.heap.size + 1, 0, none⟩ = some (.int .i64 n1) ∧ W.cell? ⟨w.heap.size + 1, 1, none⟩ = some (.slice a11 l11.length cap11) ∧ Ints W (.slice a01 l01.length cap01) l01 ∧ Ints W (.slice a11 l11.length cap11) l11 ∧ Below w2.heap.size w2 W) := fun W hb => ⟨(BA0_2.out.on hb).1 0 _ rfl, (BA0_2.out.on hb).1 1 _ rfl, (BA1_2.out.on hb).1 0 _ rfl, (BA1_2.out.on hb).1 1 _ rfl, HX01.out.on (F2.out.trans (hb.mono F2.out.size)), HX11.out.on (F2.out.trans (hb.mono F2.out.size)), hb⟩
  go_wp2
  go_region_held3 (fun w' => w'.cell? ⟨w.heap.size, 0, none⟩ = some (.int .i64 n0) ∧ w'.cell? ⟨w.heap.size, 1, none⟩ = some (.slice a01 l01.length cap01) ∧ w'.cell? ⟨w.heap.size + 1, 0, none⟩ = some (.int .i64 n1) ∧ w'.cell? ⟨w.heap.size + 1, 1, none⟩ = some (.slice a11 l11.length cap11) ∧ Ints w' (.slice a01 l01.length cap01) l01 ∧ Ints w' (.slice a11 l11.length cap11) l11 ∧ Below w2.heap.size w2 w')
    (first | exact HR.out _ (Below.refl _ _).drew | exact HR.out _ (Below.refl _ _) | (go_split_ands; exact HR.out _ (btrans (by assumption) hb)))
    (first
      | ((go_at_call_of 28 (Value.agg #[Value.int IntKind.i64 n0, Value.slice a01 l01.length cap01])); go_split_ands; refine (toGraph_any n0 _ l01 _ (by assumption) hl601).mono ?_; rintro e wa0 ⟨tw01, rfl, ho01, hb⟩; (first | (replace ho11 := ho11.keep (below_grown hb) (by simp)) | skip))
      | ((go_at_call_of 28 (Value.agg #[Value.int IntKind.i64 n1, Value.slice a11 l11.length cap11])); go_split_ands; refine (toGraph_any n1 _ l11 _ (by assumption) hl611).mono ?_; rintro e wa1 ⟨tw11, rfl, ho11, hb⟩; (first | (replace ho01 := ho01.keep (below_grown hb) (by simp)) | skip))
      | (go_at_call 40; go_split_ands; refine (HS.out _ _ _ ho01.ints ho11.ints ho01.nilform ho11.nilform).mono ?_; rintro e w3 ⟨vw0, rfl, hr0, hb⟩))
  go_split_ands
  have hbE : Below w2.heap.size w2 w3 := by assumption
  have BA0_3 := Lib.hid (BA0_2.out.on hbE)
  have BA1_3 := Lib.hid (BA1_2.out.on hbE)
  have F3 := Lib.hid (F2.out.trans (hbE.mono F2.out.size))
  have hz2 : w2.heap.size ≤ w3.heap.size := hbE.size
  have ho0 := hr0
  have OW_3 := Lib.hid ho0
  clear BA0_2 BA1_2 F2 HR hbE hb ho01 ho11 hr0 ho0
  have cA00 : w3.cell? ⟨w.heap.size, 0, none⟩ = some (.int .i64 n0) := BA0_3.out.1 0 _ rfl
  have cA01 : w3.cell? ⟨w.heap.size, 1, none⟩ = some (.slice a01 l01.length cap01) := BA0_3.out.1 1 _ rfl
  have cA0z := BA0_3.out.2.2
  go_wp2_with fail
  refine (toGraph_any n0 _ l01 _ (HX01.out.on F3.out) hl601).mono ?_
  rintro e w4 ⟨vx01, rfl, ho01, hb⟩
  have BA0_4 := Lib.hid (BA0_3.out.on hb)
  have BA1_4 := Lib.hid (BA1_3.out.on hb)
  have OW_4 := Lib.hid (OW_3.out.keepG (below_grown hb) (by simp))
  have F4 := Lib.hid (F3.out.trans (hb.mono F3.out.size))
  have hz3 : w3.heap.size ≤ w4.heap.size := hb.size
  have OX01_4 := Lib.hid (show OwnR w3.heap.size w4.heap.size w4 (vx01) l01 from ⟨ho01, fun k hk => (ho01.lt k hk).2⟩)
  clear BA0_3 BA1_3 OW_3 F3 hb ho01 cA00 cA01 cA0z
  obtain ⟨ax01, capx01, hvx01⟩ : ∃ a c, vx01 = .slice a l01.length c := by obtain ⟨a, c, h, -, -⟩ := OX01_4.out.1.ints.form; exact ⟨a, c, h⟩
  subst hvx01
  obtain ⟨w5, hw5⟩ : ∃ w5, w5 = w4.alloc (.cells #[.int .i64 n0, .slice ax01 l01.length capx01] 44) := ⟨_, rfl⟩
  have hb : Below w4.heap.size w4 w5 := by rw [hw5]; exact (Below.refl _ _).alloc (Nat.le_refl _) _
  have hzs4 : w4.heap.size < w5.heap.size := by rw [hw5]; simp
  have cA10 : w4.cell? ⟨w.heap.size + 1, 0, none⟩ = some (.int .i64 n1) := BA1_4.out.1 0 _ rfl
  have cA11 : w4.cell? ⟨w.heap.size + 1, 1, none⟩ = some (.slice a11 l11.length cap11) := BA1_4.out.1 1 _ rfl
  have cA1z := BA1_4.out.2.2
  have BA0_5 := Lib.hid (BA0_4.out.on hb)
  have BA1_5 := Lib.hid (BA1_4.out.on hb)
  have OW_5 := Lib.hid (OW_4.out.keepG (below_grown hb) (by simp))
  have OX01_5 := Lib.hid (OX01_4.out.on hb)
  have F5 := Lib.hid (F4.out.trans (hb.mono F4.out.size))
  have hz4 : w4.heap.size ≤ w5.heap.size := hb.size
  have BX0_5 := Lib.hid (show Box w4.heap.size [.int .i64 n0, .slice ax01 l01.length capx01] w5 by rw [hw5]; exact Box.new w4 _ _)
  go_wp2_with fail
  rw [← hw5]
  clear BA0_4 BA1_4 OW_4 OX01_4 F4 hb hw5 cA10 cA11 cA1z
  refine (toGraph_any n1 _ l11 _ (HX11.out.on F5.out) hl611).mono ?_
  rintro e w6 ⟨vx11, rfl, ho11, hb⟩
  have BA0_6 := Lib.hid (BA0_5.out.on hb)
  have BA1_6 := Lib.hid (BA1_5.out.on hb)
  have BX0_6 := Lib.hid (BX0_5.out.on hb)
  have OW_6 := Lib.hid (OW_5.out.keepG (below_grown hb) (by simp))
  have OX01_6 := Lib.hid (OX01_5.out.on hb)
  have F6 := Lib.hid (F5.out.trans (hb.mono F5.out.size))
  have hz5 : w5.heap.size ≤ w6.heap.size := hb.size
  have OX11_6 := Lib.hid (show OwnR w5.heap.size w6.heap.size w6 (vx11) l11 from ⟨ho11, fun k hk => (ho11.lt k hk).2⟩)
  clear BA0_5 BA1_5 BX0_5 OW_5 OX01_5 F5 hb ho11
  obtain ⟨ax11, capx11, hvx11⟩ : ∃ a c, vx11 = .slice a l11.length c := by obtain ⟨a, c, h, -, -⟩ := OX11_6.out.1.ints.form; exact ⟨a, c, h⟩
  subst hvx11
  obtain ⟨w7, hw7⟩ : ∃ w7, w7 = w6.alloc (.cells #[.int .i64 n1, .slice ax11 l11.length capx11] 44) := ⟨_, rfl⟩
  have hb : Below w6.heap.size w6 w7 := by rw [hw7]; exact (Below.refl _ _).alloc (Nat.le_refl _) _
  have hzs6 : w6.heap.size < w7.heap.size := by rw [hw7]; simp
  have cX00 : w6.cell? ⟨w4.heap.size, 0, none⟩ = some (.int .i64 n0) := BX0_6.out.1 0 _ rfl
  have cX01 : w6.cell? ⟨w4.heap.size, 1, none⟩ = some (.slice ax01 l01.length capx01) := BX0_6.out.1 1 _ rfl
  have cX0z := BX0_6.out.2.2
  have BA0_7 := Lib.hid (BA0_6.out.on hb)
  have BA1_7 := Lib.hid (BA1_6.out.on hb)
  have BX0_7 := Lib.hid (BX0_6.out.on hb)
  have OW_7 := Lib.hid (OW_6.out.keepG (below_grown hb) (by simp))
  have OX01_7 := Lib.hid (OX01_6.out.on hb)
  have OX11_7 := Lib.hid (OX11_6.out.on hb)
  have F7 := Lib.hid (F6.out.trans (hb.mono F6.out.size))
  have hz6 : w6.heap.size ≤ w7.heap.size := hb.size
  have BX1_7 := Lib.hid (show Box w6.heap.size [.int .i64 n1, .slice ax11 l11.length capx11] w7 by rw [hw7]; exact Box.new w6 _ _)
  go_wp2_with fail
  rw [← hw7]
  clear BA0_6 BA1_6 BX0_6 OW_6 OX01_6 OX11_6 F6 hb hw7 cX00 cX01 cX0z
  refine (HI.out _ _ _ OX01_7.out.1.ints OX11_7.out.1.ints OX01_7.out.1.nilform OX11_7.out.1.nilform).mono ?_
  rintro e w8 ⟨vg0, rfl, ho0, hb⟩
  have BA0_8 := Lib.hid (BA0_7.out.on hb)
  have BA1_8 := Lib.hid (BA1_7.out.on hb)
  have BX0_8 := Lib.hid (BX0_7.out.on hb)
  have BX1_8 := Lib.hid (BX1_7.out.on hb)
  have OW_8 := Lib.hid (OW_7.out.keepG (below_grown hb) (by simp))
  have OX01_8 := Lib.hid (OX01_7.out.on hb)
  have OX11_8 := Lib.hid (OX11_7.out.on hb)
  have F8 := Lib.hid (F7.out.trans (hb.mono F7.out.size))
  have hz7 : w7.heap.size ≤ w8.heap.size := hb.size
  have OG_8 := Lib.hid ho0
  clear BA0_7 BA1_7 BX0_7 BX1_7 OW_7 OX01_7 OX11_7 F7 hb ho0
  go_wp2_with fail
  refine (eqIntSS_same _ _ _ _ _ _ l' _ OG_8.out OW_8.out hl' ht').mono ?_
  rintro e w9 ⟨rfl, hb⟩
  have BA0_9 := Lib.hid (BA0_8.out.on hb)
  have BA1_9 := Lib.hid (BA1_8.out.on hb)
  have BX0_9 := Lib.hid (BX0_8.out.on hb)
  have BX1_9 := Lib.hid (BX1_8.out.on hb)
  have OW_9 := Lib.hid (OW_8.out.keepG (below_grown hb) (by simp))
  have OX01_9 := Lib.hid (OX01_8.out.on hb)
  have OX11_9 := Lib.hid (OX11_8.out.on hb)
  have OG_9 := Lib.hid (OG_8.out.keepG (below_grown hb) (by simp))
  have F9 := Lib.hid (F8.out.trans (hb.mono F8.out.size))
  have hz8 : w8.heap.size ≤ w9.heap.size := hb.size
  clear BA0_8 BA1_8 BX0_8 BX1_8 OW_8 OX01_8 OX11_8 OG_8 F8 hb
  have HR : Hid (∀ W, Below w9.heap.size w9 W → W.cell? ⟨w.heap.size, 0, none⟩ = some (.int .i64 n0) ∧ W.cell? ⟨w.heap.size, 1, none⟩ = some (.slice a01 l01.length cap01) ∧ W.cell? ⟨w4.heap.size, 0, none⟩ = some (.int .i64 n0) ∧ W.cell? ⟨w4.heap.size, 1, none⟩ = some (.slice ax01 l01.length capx01) ∧ Ints W (.slice a01 l01.length cap01) l01 ∧ Ints W (.slice ax01 l01.length capx01) l01 ∧ Below w9.heap.size w9 W) := fun W hb => ⟨(BA0_9.out.on hb).1 0 _ rfl, (BA0_9.out.on hb).1 1 _ rfl, (BX0_9.out.on hb).1 0 _ rfl, (BX0_9.out.on hb).1 1 _ rfl, HX01.out.on (F9.out.trans (hb.mono F9.out.size)), (OX01_9.out.on hb).1.ints, hb⟩
  go_wp2
  go_region_held3 (fun w' => w'.cell? ⟨w.heap.size, 0, none⟩ = some (.int .i64 n0) ∧ w'.cell? ⟨w.heap.size, 1, none⟩ = some (.slice a01 l01.length cap01) ∧ w'.cell? ⟨w4.heap.size, 0, none⟩ = some (.int .i64 n0) ∧ w'.cell? ⟨w4.heap.size, 1, none⟩ = some (.slice ax01 l01.length capx01) ∧ Ints w' (.slice a01 l01.length cap01) l01 ∧ Ints w' (.slice ax01 l01.length capx01) l01 ∧ Below w9.heap.size w9 w')
    (first | exact HR.out _ (Below.refl _ _).drew | exact HR.out _ (Below.refl _ _) | (go_split_ands; exact HR.out _ (btrans (by assumption) hb)))
    (first
      | (go_at_call 28; go_split_ands; refine (toGraph_any n0 _ l01 _ (by assumption) hl601).mono ?_; rintro e wa ⟨vy01, rfl, ho01, hb⟩)
      | (go_at_call 32; go_split_ands; refine (eqGraph_same n0 _ _ l01 _ (by assumption) ho01.ints hl901).mono ?_; rintro e w10 ⟨rfl, hb⟩))
  go_split_ands
  have hbE : Below w9.heap.size w9 w10 := by assumption
  have BA0_10 := Lib.hid (BA0_9.out.on hbE)
  have BA1_10 := Lib.hid (BA1_9.out.on hbE)
  have BX0_10 := Lib.hid (BX0_9.out.on hbE)
  have BX1_10 := Lib.hid (BX1_9.out.on hbE)
  have OW_10 := Lib.hid (OW_9.out.keepG (below_grown hbE) (by simp))
  have OX01_10 := Lib.hid (OX01_9.out.on hbE)
  have OX11_10 := Lib.hid (OX11_9.out.on hbE)
  have OG_10 := Lib.hid (OG_9.out.keepG (below_grown hbE) (by simp))
  have F10 := Lib.hid (F9.out.trans (hbE.mono F9.out.size))
  have hz9 : w9.heap.size ≤ w10.heap.size := hbE.size
  clear BA0_9 BA1_9 BX0_9 BX1_9 OW_9 OX01_9 OX11_9 OG_9 F9 HR hbE hb ho01
  have HR : Hid (∀ W, Below w10.heap.size w10 W → W.cell? ⟨w.heap.size + 1, 0, none⟩ = some (.int .i64 n1) ∧ W.cell? ⟨w.heap.size + 1, 1, none⟩ = some (.slice a11 l11.length cap11) ∧ W.cell? ⟨w6.heap.size, 0, none⟩ = some (.int .i64 n1) ∧ W.cell? ⟨w6.heap.size, 1, none⟩ = some (.slice ax11 l11.length capx11) ∧ Ints W (.slice a11 l11.length cap11) l11 ∧ Ints W (.slice ax11 l11.length capx11) l11 ∧ Below w10.heap.size w10 W) := fun W hb => ⟨(BA1_10.out.on hb).1 0 _ rfl, (BA1_10.out.on hb).1 1 _ rfl, (BX1_10.out.on hb).1 0 _ rfl, (BX1_10.out.on hb).1 1 _ rfl, HX11.out.on (F10.out.trans (hb.mono F10.out.size)), (OX11_10.out.on hb).1.ints, hb⟩
  go_wp2
  go_region_held3 (fun w' => w'.cell? ⟨w.heap.size + 1, 0, none⟩ = some (.int .i64 n1) ∧ w'.cell? ⟨w.heap.size + 1, 1, none⟩ = some (.slice a11 l11.length cap11) ∧ w'.cell? ⟨w6.heap.size, 0, none⟩ = some (.int .i64 n1) ∧ w'.cell? ⟨w6.heap.size, 1, none⟩ = some (.slice ax11 l11.length capx11) ∧ Ints w' (.slice a11 l11.length cap11) l11 ∧ Ints w' (.slice ax11 l11.length capx11) l11 ∧ Below w10.heap.size w10 w')
    (first | exact HR.out _ (Below.refl _ _).drew | exact HR.out _ (Below.refl _ _) | (go_split_ands; exact HR.out _ (btrans (by assumption) hb)))
    (first
      | (go_at_call 28; go_split_ands; refine (toGraph_any n1 _ l11 _ (by assumption) hl611).mono ?_; rintro e wa ⟨vy11, rfl, ho11, hb⟩)
      | (go_at_call 32; go_split_ands; refine (eqGraph_same n1 _ _ l11 _ (by assumption) ho11.ints hl911).mono ?_; rintro e w11 ⟨rfl, hb⟩))
  go_split_ands
  have hbE : Below w10.heap.size w10 w11 := by assumption
  have BA0_11 := Lib.hid (BA0_10.out.on hbE)
  have BA1_11 := Lib.hid (BA1_10.out.on hbE)
  have BX0_11 := Lib.hid (BX0_10.out.on hbE)
  have BX1_11 := Lib.hid (BX1_10.out.on hbE)
  have OW_11 := Lib.hid (OW_10.out.keepG (below_grown hbE) (by simp))
  have OX01_11 := Lib.hid (OX01_10.out.on hbE)
  have OX11_11 := Lib.hid (OX11_10.out.on hbE)
  have OG_11 := Lib.hid (OG_10.out.keepG (below_grown hbE) (by simp))
  have F11 := Lib.hid (F10.out.trans (hbE.mono F10.out.size))
  have hz10 : w10.heap.size ≤ w11.heap.size := hbE.size
  clear BA0_10 BA1_10 BX0_10 BX1_10 OW_10 OX01_10 OX11_10 OG_10 F10 HR hbE hb ho11
  have cX00 : w11.cell? ⟨w4.heap.size, 0, none⟩ = some (.int .i64 n0) := BX0_11.out.1 0 _ rfl
  have cX01 : w11.cell? ⟨w4.heap.size, 1, none⟩ = some (.slice ax01 l01.length capx01) := BX0_11.out.1 1 _ rfl
  have cX0z := BX0_11.out.2.2
  go_wp2_with fail
  refine (markGraph_any _ n0 _ l01 (1 : Int) _ OX01_11.out.1 hl901 (by omega) (by omega)).mono ?_
  rintro e w12 ⟨rfl, ho, hg⟩
  have hO := Only.of_grown hg (fun k hk => ⟨(OX01_11.out.1.lt k hk).1, OX01_11.out.2 k hk⟩)
  have BA0_12 := Lib.hid (BA0_11.out.keepO hO (by omega))
  have BA1_12 := Lib.hid (BA1_11.out.keepO hO (by omega))
  have BX1_12 := Lib.hid (BX1_11.out.keepO hO (by omega))
  have OW_12 := Lib.hid (OW_11.out.keep hO (by omega))
  have OX11_12 := Lib.hid (OX11_11.out.keepO hO (by omega))
  have OG_12 := Lib.hid (OG_11.out.keep hO (by omega))
  have F12 := Lib.hid (Below.only F11.out hO (by omega) (Nat.le_refl _))
  have hz11 : w11.heap.size ≤ w12.heap.size := hO.size
  clear BA0_11 BA1_11 BX0_11 BX1_11 OW_11 OX01_11 OX11_11 OG_11 F11 hg ho hO cX00 cX01 cX0z
  have cX10 : w12.cell? ⟨w6.heap.size, 0, none⟩ = some (.int .i64 n1) := BX1_12.out.1 0 _ rfl
  have cX11 : w12.cell? ⟨w6.heap.size, 1, none⟩ = some (.slice ax11 l11.length capx11) := BX1_12.out.1 1 _ rfl
  have cX1z := BX1_12.out.2.2
  go_wp2_with fail
  refine (markGraph_any _ n1 _ l11 ((1 : Int) + l01.length) _ OX11_12.out.1 hl911 (by omega) (by omega)).mono ?_
  rintro e w13 ⟨rfl, ho, hg⟩
  have hO := Only.of_grown hg (fun k hk => ⟨(OX11_12.out.1.lt k hk).1, OX11_12.out.2 k hk⟩)
  have BA0_13 := Lib.hid (BA0_12.out.keepO hO (by omega))
  have BA1_13 := Lib.hid (BA1_12.out.keepO hO (by omega))
  have OW_13 := Lib.hid (OW_12.out.keep hO (by omega))
  have OG_13 := Lib.hid (OG_12.out.keep hO (by omega))
  have F13 := Lib.hid (Below.only F12.out hO (by omega) (Nat.le_refl _))
  have hz12 : w12.heap.size ≤ w13.heap.size := hO.size
  clear BA0_12 BA1_12 BX1_12 OW_12 OX11_12 OG_12 F12 hg ho hO cX10 cX11 cX1z
  have hk : decide ((((1 : Int) + l01.length) + l11.length) < 0) = false := by simp; omega
  go_wp2_with fail
  refine (eqIntSS_same _ _ _ _ _ _ l' _ OG_13.out OW_13.out hl' ht').mono ?_
  rintro e w14 ⟨rfl, hb⟩
  have BA0_14 := Lib.hid (BA0_13.out.on hb)
  have BA1_14 := Lib.hid (BA1_13.out.on hb)
  have OW_14 := Lib.hid (OW_13.out.keepG (below_grown hb) (by simp))
  have OG_14 := Lib.hid (OG_13.out.keepG (below_grown hb) (by simp))
  have F14 := Lib.hid (F13.out.trans (hb.mono F13.out.size))
  have hz13 : w13.heap.size ≤ w14.heap.size := hb.size
  clear BA0_13 BA1_13 OW_13 OG_13 F13 hb
  go_wp2_with fail
  refine (markIntSS_any _ _ _ l' 1 _ OG_14.out hl' ht' (by omega) (by omega)).mono ?_
  rintro e w15 ⟨rfl, ⟨M, hM, ho⟩, hO⟩
  have HM := Lib.hid hM
  have BA0_15 := Lib.hid (BA0_14.out.keepO hO (by omega))
  have BA1_15 := Lib.hid (BA1_14.out.keepO hO (by omega))
  have OW_15 := Lib.hid (OW_14.out.keep hO (by omega))
  have F15 := Lib.hid (Below.only F14.out hO (by omega) (Nat.le_refl _))
  have hz14 : w14.heap.size ≤ w15.heap.size := hO.size
  have OG_15 := Lib.hid ho
  clear BA0_14 BA1_14 OW_14 OG_14 F14 hO ho hM
  go_wp2_with fail
  refine (heldIntSS_any _ _ _ l' M 1 _ OG_15.out HM.out hl' ht' (by omega) (by omega)).mono ?_
  rintro e w16 ⟨rfl, hb⟩
  have BA0_16 := Lib.hid (BA0_15.out.on hb)
  have BA1_16 := Lib.hid (BA1_15.out.on hb)
  have OW_16 := Lib.hid (OW_15.out.keepG (below_grown hb) (by simp))
  have OG_16 := Lib.hid (OG_15.out.keepG (below_grown hb) (by simp))
  have F16 := Lib.hid (F15.out.trans (hb.mono F15.out.size))
  have hz15 : w15.heap.size ≤ w16.heap.size := hb.size
  clear BA0_15 BA1_15 OW_15 OG_15 F15 hb
  have hk' : decide ((1 : Int) + tot l' < 0) = false := by simp; omega
  have hq : ((1 : Int) + tot l' != 1 + tot l') = false := by simp
  have HR : Hid (∀ W, Below w16.heap.size w16 W → W.cell? ⟨w.heap.size, 0, none⟩ = some (.int .i64 n0) ∧ W.cell? ⟨w.heap.size, 1, none⟩ = some (.slice a01 l01.length cap01) ∧ W.cell? ⟨w.heap.size + 1, 0, none⟩ = some (.int .i64 n1) ∧ W.cell? ⟨w.heap.size + 1, 1, none⟩ = some (.slice a11 l11.length cap11) ∧ Ints W (.slice a01 l01.length cap01) l01 ∧ Ints W (.slice a11 l11.length cap11) l11 ∧ Below w16.heap.size w16 W) := fun W hb => ⟨(BA0_16.out.on hb).1 0 _ rfl, (BA0_16.out.on hb).1 1 _ rfl, (BA1_16.out.on hb).1 0 _ rfl, (BA1_16.out.on hb).1 1 _ rfl, HX01.out.on (F16.out.trans (hb.mono F16.out.size)), HX11.out.on (F16.out.trans (hb.mono F16.out.size)), hb⟩
  go_wp2
  go_region_held3 (fun w' => w'.cell? ⟨w.heap.size, 0, none⟩ = some (.int .i64 n0) ∧ w'.cell? ⟨w.heap.size, 1, none⟩ = some (.slice a01 l01.length cap01) ∧ w'.cell? ⟨w.heap.size + 1, 0, none⟩ = some (.int .i64 n1) ∧ w'.cell? ⟨w.heap.size + 1, 1, none⟩ = some (.slice a11 l11.length cap11) ∧ Ints w' (.slice a01 l01.length cap01) l01 ∧ Ints w' (.slice a11 l11.length cap11) l11 ∧ Below w16.heap.size w16 w')
    (first | exact HR.out _ (Below.refl _ _).drew | exact HR.out _ (Below.refl _ _) | (go_split_ands; exact HR.out _ (btrans (by assumption) hb)))
    (first
      | ((go_at_call_of 28 (Value.agg #[Value.int IntKind.i64 n0, Value.slice a01 l01.length cap01])); go_split_ands; refine (toGraph_any n0 _ l01 _ (by assumption) hl601).mono ?_; rintro e wa0 ⟨th01, rfl, ho01, hb⟩; (first | (replace ho11 := ho11.keep (below_grown hb) (by simp)) | skip))
      | ((go_at_call_of 28 (Value.agg #[Value.int IntKind.i64 n1, Value.slice a11 l11.length cap11])); go_split_ands; refine (toGraph_any n1 _ l11 _ (by assumption) hl611).mono ?_; rintro e wa1 ⟨th11, rfl, ho11, hb⟩; (first | (replace ho01 := ho01.keep (below_grown hb) (by simp)) | skip))
      | (go_at_call 41; go_split_ands; refine (HI.out _ _ _ ho01.ints ho11.ints ho01.nilform ho11.nilform).mono ?_; rintro e w17 ⟨vh0, rfl, hr0, hb⟩))
  go_split_ands
  have hbE : Below w16.heap.size w16 w17 := by assumption
  have BA0_17 := Lib.hid (BA0_16.out.on hbE)
  have BA1_17 := Lib.hid (BA1_16.out.on hbE)
  have OW_17 := Lib.hid (OW_16.out.keepG (below_grown hbE) (by simp))
  have OG_17 := Lib.hid (OG_16.out.keepG (below_grown hbE) (by simp))
  have F17 := Lib.hid (F16.out.trans (hbE.mono F16.out.size))
  have hz16 : w16.heap.size ≤ w17.heap.size := hbE.size
  have ho0 := hr0
  have OH_17 := Lib.hid ho0
  clear BA0_16 BA1_16 OW_16 OG_16 F16 HR hbE hb ho01 ho11 hr0 ho0
  go_wp2_with fail
  refine (eqIntSS_same _ _ _ _ _ _ l' _ OH_17.out OW_17.out hl' ht').mono ?_
  rintro e w18 ⟨rfl, hb⟩
  have BA0_18 := Lib.hid (BA0_17.out.on hb)
  have BA1_18 := Lib.hid (BA1_17.out.on hb)
  have OW_18 := Lib.hid (OW_17.out.keepG (below_grown hb) (by simp))
  have OG_18 := Lib.hid (OG_17.out.keepG (below_grown hb) (by simp))
  have OH_18 := Lib.hid (OH_17.out.keepG (below_grown hb) (by simp))
  have F18 := Lib.hid (F17.out.trans (hb.mono F17.out.size))
  have hz17 : w17.heap.size ≤ w18.heap.size := hb.size
  clear BA0_17 BA1_17 OW_17 OG_17 OH_17 F17 hb
  go_wp2_with fail
  refine (heldIntSS_any _ _ _ l' M 1 _ OG_18.out HM.out hl' ht' (by omega) (by omega)).mono ?_
  rintro e w19 ⟨rfl, hb⟩
  have BA0_19 := Lib.hid (BA0_18.out.on hb)
  have BA1_19 := Lib.hid (BA1_18.out.on hb)
  have OW_19 := Lib.hid (OW_18.out.keepG (below_grown hb) (by simp))
  have OG_19 := Lib.hid (OG_18.out.keepG (below_grown hb) (by simp))
  have F19 := Lib.hid (F18.out.trans (hb.mono F18.out.size))
  have hz18 : w18.heap.size ≤ w19.heap.size := hb.size
  clear BA0_18 BA1_18 OW_18 OG_18 F18 hb
  go_wp2
  go_ret
  exact ⟨rfl, F19.out⟩

set_option maxHeartbeats 1000000 in
set_option maxRecDepth 100000 in
theorem walk (n0 : Int) (v01 : Value) (l01 : List Int) (n1 : Int) (v11 : Value) (l11 : List Int) (w : World) (w0 : (Lit.int .i64 n0).wf = true) (x01 : Ints w v01 l01) (w1 : (Lit.int .i64 n1).wf = true) (x11 : Ints w v11 l11) : Calls Try.prog 7 #[.agg #[.int .i64 n0, v01], .agg #[.int .i64 n1, v11]] w fun e w' => e = .returned (.bool true) ∧ Below w.heap.size w w' := by
  by_cases hb0 : 1048576 < (l01.length : Int)
  · skip
    obtain ⟨a01, cap01, rfl, -, hm01⟩ := x01.form
    have HX01 := Lib.hid x01
    obtain ⟨a11, cap11, rfl, -, hm11⟩ := x11.form
    have HX11 := Lib.hid x11
    clear w0 w1 x01 x11 
    have BA0_0 := Lib.hid (show Box (w.heap.size) [.int .i64 n0, .slice a01 l01.length cap01] ((w.alloc (.cells #[.int .i64 n0, .slice a01 l01.length cap01] 39)).alloc (.cells #[.int .i64 n1, .slice a11 l11.length cap11] 39)) from ((Box.new w 39 [.int .i64 n0, .slice a01 l01.length cap01]).keep (grown_alloc _ (.cells #[.int .i64 n1, .slice a11 l11.length cap11] 39) none) (by simp)))
    have BA1_0 := Lib.hid (show Box (w.heap.size + 1) [.int .i64 n1, .slice a11 l11.length cap11] ((w.alloc (.cells #[.int .i64 n0, .slice a01 l01.length cap01] 39)).alloc (.cells #[.int .i64 n1, .slice a11 l11.length cap11] 39)) by have h := (Box.new (w.alloc (.cells #[.int .i64 n0, .slice a01 l01.length cap01] 39)) 39 [.int .i64 n1, .slice a11 l11.length cap11]); simpa using h)
    have F0 := Lib.hid (show Below w.heap.size w ((w.alloc (.cells #[.int .i64 n0, .slice a01 l01.length cap01] 39)).alloc (.cells #[.int .i64 n1, .slice a11 l11.length cap11] 39)) from (((Below.refl _ w).alloc (Nat.le_refl _) (.cells #[.int .i64 n0, .slice a01 l01.length cap01] 39)).alloc (by simp <;> omega) (.cells #[.int .i64 n1, .slice a11 l11.length cap11] 39)))
    go_enter Try.func7, Try.ntmps7
    have cc00 : ((w.alloc (.cells #[.int .i64 n0, .slice a01 l01.length cap01] 39)).alloc (.cells #[.int .i64 n1, .slice a11 l11.length cap11] 39)).cell? ⟨w.heap.size, 0, none⟩ = some (.int .i64 n0) := BA0_0.out.1 0 _ rfl
    have cc01 : ((w.alloc (.cells #[.int .i64 n0, .slice a01 l01.length cap01] 39)).alloc (.cells #[.int .i64 n1, .slice a11 l11.length cap11] 39)).cell? ⟨w.heap.size, 1, none⟩ = some (.slice a01 l01.length cap01) := BA0_0.out.1 1 _ rfl
    go_wp2_with fail
    refine (szGraph_over n0 _ l01 _ _ (HX01.out.on F0.out) (by omega) (by omega)).mono ?_
    rintro e w1 ⟨rfl, hb⟩
    have BA0_1 := Lib.hid (BA0_0.out.on hb)
    have BA1_1 := Lib.hid (BA1_0.out.on hb)
    have F1 := Lib.hid (F0.out.trans (hb.mono F0.out.size))
    clear hb BA0_0 BA1_0 F0 cc00 cc01
    go_wp2
    go_ret
    exact ⟨rfl, F1.out⟩
  by_cases hb1 : 1048576 < (l01.length : Int) + (l11.length : Int)
  · skip
    obtain ⟨a01, cap01, rfl, -, hm01⟩ := x01.form
    have HX01 := Lib.hid x01
    obtain ⟨a11, cap11, rfl, -, hm11⟩ := x11.form
    have HX11 := Lib.hid x11
    clear w0 w1 x01 x11 
    have hp01 : (0 : Int) ≤ 1048576 - l01.length := by omega
    have BA0_0 := Lib.hid (show Box (w.heap.size) [.int .i64 n0, .slice a01 l01.length cap01] ((w.alloc (.cells #[.int .i64 n0, .slice a01 l01.length cap01] 39)).alloc (.cells #[.int .i64 n1, .slice a11 l11.length cap11] 39)) from ((Box.new w 39 [.int .i64 n0, .slice a01 l01.length cap01]).keep (grown_alloc _ (.cells #[.int .i64 n1, .slice a11 l11.length cap11] 39) none) (by simp)))
    have BA1_0 := Lib.hid (show Box (w.heap.size + 1) [.int .i64 n1, .slice a11 l11.length cap11] ((w.alloc (.cells #[.int .i64 n0, .slice a01 l01.length cap01] 39)).alloc (.cells #[.int .i64 n1, .slice a11 l11.length cap11] 39)) by have h := (Box.new (w.alloc (.cells #[.int .i64 n0, .slice a01 l01.length cap01] 39)) 39 [.int .i64 n1, .slice a11 l11.length cap11]); simpa using h)
    have F0 := Lib.hid (show Below w.heap.size w ((w.alloc (.cells #[.int .i64 n0, .slice a01 l01.length cap01] 39)).alloc (.cells #[.int .i64 n1, .slice a11 l11.length cap11] 39)) from (((Below.refl _ w).alloc (Nat.le_refl _) (.cells #[.int .i64 n0, .slice a01 l01.length cap01] 39)).alloc (by simp <;> omega) (.cells #[.int .i64 n1, .slice a11 l11.length cap11] 39)))
    go_enter Try.func7, Try.ntmps7
    have cc00 : ((w.alloc (.cells #[.int .i64 n0, .slice a01 l01.length cap01] 39)).alloc (.cells #[.int .i64 n1, .slice a11 l11.length cap11] 39)).cell? ⟨w.heap.size, 0, none⟩ = some (.int .i64 n0) := BA0_0.out.1 0 _ rfl
    have cc01 : ((w.alloc (.cells #[.int .i64 n0, .slice a01 l01.length cap01] 39)).alloc (.cells #[.int .i64 n1, .slice a11 l11.length cap11] 39)).cell? ⟨w.heap.size, 1, none⟩ = some (.slice a01 l01.length cap01) := BA0_0.out.1 1 _ rfl
    go_wp2_with fail
    refine (szGraph_fits n0 _ l01 _ _ (HX01.out.on F0.out) (by omega) (by omega)).mono ?_
    rintro e w1 ⟨rfl, hb⟩
    have BA0_1 := Lib.hid (BA0_0.out.on hb)
    have BA1_1 := Lib.hid (BA1_0.out.on hb)
    have F1 := Lib.hid (F0.out.trans (hb.mono F0.out.size))
    clear hb BA0_0 BA1_0 F0 cc00 cc01
    have cc10 : w1.cell? ⟨w.heap.size + 1, 0, none⟩ = some (.int .i64 n1) := BA1_1.out.1 0 _ rfl
    have cc11 : w1.cell? ⟨w.heap.size + 1, 1, none⟩ = some (.slice a11 l11.length cap11) := BA1_1.out.1 1 _ rfl
    go_wp2_with fail
    refine (szGraph_over n1 _ l11 _ _ (HX11.out.on F1.out) (by omega) (by omega)).mono ?_
    rintro e w2 ⟨rfl, hb⟩
    have BA0_2 := Lib.hid (BA0_1.out.on hb)
    have BA1_2 := Lib.hid (BA1_1.out.on hb)
    have F2 := Lib.hid (F1.out.trans (hb.mono F1.out.size))
    clear hb BA0_1 BA1_1 F1 cc10 cc11
    go_wp2
    go_ret
    exact ⟨rfl, F2.out⟩
  exact core n0 v01 l01 n1 v11 l11 w w0 x01 w1 x11 (optR n0 l01 n1 l11) (decide (WithinP n0 l01 n1 l11)) (Nat.le_trans (opt_bounds _ _ _ _).1 (by omega)) (Nat.le_trans (opt_bounds _ _ _ _).2 (by omega)) (by omega)
    (fun W u01 u11 h01 h11 _ _ => specOptional n0 n1 u01 u11 l01 l11 W h01 h11)
    (fun W u01 u11 h01 h11 _ _ => implOptional n0 n1 u01 u11 l01 l11 W h01 h11)

set_option maxRecDepth 100000 in
theorem lifted (os : Os) (started : os.Started) (H : Type) (enc : TypeId × Value → H) :
    ReturnsInHanded {} Try.checked os 7 .any (Rows.fnExactOptionalEdgesSpec.pre6 enc Try.prog Try.f7 Rows.fnExactOptionalEdgesRow.domain false) (Rows.fnExactOptionalEdgesSpec.post enc Try.prog Try.f7 false true false false) := by
  refine returnsInHanded_of_change (C := Try.checked) own started (by kernel_rfl) Try.func7
    (ChangeSpec.witness6 (enc := enc) (C := Try.checked) false ⟨#[], #[.agg #[.int .i64 0, .slice none 0 0], .agg #[.int .i64 0, .slice none 0 0]], []⟩ 8 (by kernel_rfl) (by kernel_rfl) (by kernel_rfl) (by kernel_rfl)) ?_
  intro W base args ds gs before hval0 hW hcnd _
  have hval : ∀ (j : Nat) t v, Try.f7.params[j]? = some t → args[j]? = some v → Value.okWide Try.prog W .any base t v := hval0
  have hW' := hW
  obtain ⟨p, q, hA0, hV, rfl, hfz, hnd⟩ := hW
  have hA : DataW.TrodAll enc Try.prog W 0 (fun _ => true) true Try.f7.params.toList args.toList ds p := hA0
  rw [Try.params7] at hA hval
  obtain ⟨v0, vs0, d0, ds0, p0, q0, hargs, rfl, rfl, h0, r0⟩ := trodAll_cons hA
  obtain ⟨v1, vs1, d1, ds1, p1, q1, rfl, rfl, rfl, h1, r1⟩ := trodAll_cons r0
  obtain ⟨rfl, rfl, rfl⟩ := trodAll_nil r1
  obtain rfl : args = #[v0, v1] := by cases args; simp_all
  obtain ⟨rfl, rfl⟩ := trodVars_none hV
  have k0 := h0
  obtain ⟨n0, u01, l01, rfl, w0, x01⟩ := open_is Try.underlying39 (by kernel_rfl) (by kernel_rfl) Try.underlying3 Try.underlying22 Try.underlying3 (by kernel_rfl) (hval 0 39 v0 rfl rfl) h0
  have k1 := h1
  obtain ⟨n1, u11, l11, rfl, w1, x11⟩ := open_is Try.underlying39 (by kernel_rfl) (by kernel_rfl) Try.underlying3 Try.underlying22 Try.underlying3 (by kernel_rfl) (hval 1 39 v1 rfl rfl) h1
  clear hA0 hval0
  refine (walk n0 u01 l01 n1 u11 l11 W w0 x01 w1 x11).mono fun e W' ⟨he, bel⟩ => ?_
  subst he
  exact ⟨_, rfl, _, _, _, [], _, [], hW', (trodAll_cons_mk (shut_bool Try.underlying4 _) trodAll_mk0), (trodAll_cons_mk (Below.trod laidOut (by kernel_rfl) (of_decide_eq_true (by kernel_rfl)) k0 bel (lt_of_trod k0)) (trodAll_cons_mk (Below.trod laidOut (by kernel_rfl) (of_decide_eq_true (by kernel_rfl)) k1 bel (lt_of_trod k1)) trodAll_mk0)), rfl, bel.frame _, fun h => by cases h⟩

theorem proved : Rows.FnExactOptionalEdgesSaid :=
  OpenClaim.holds_of_wide 7 Try.f7 rfl rfl rfl rfl rfl rfl rfl ⟨rfl, rfl, rfl, rfl, rfl⟩ rfl rfl rfl rfl rfl (by kernel_rfl) Try.func7 (by kernel_rfl)
    (of_decide_eq_true (by kernel_rfl)) (by unfold Func.isWrapper; first | (rw [if_pos (by decide +kernel)]; kernel_rfl) | (rw [if_neg (by decide +kernel)]; exact ⟨rfl, rfl⟩))
    (fun os started H enc _ => lifted os started H enc)
#print axioms proved
end Go.Proofs.Ytgfndgjabhabjaa.fnExactOptionalEdges
