/- At every argument HeightsOf answers as its specification, writes into no argument, and its answer owns its memory. -/
import Derived.Test.YtcpchdnhhjhpaaaRows
import Derived.Test.YtcpchdnhhjhpaaaSh
import Derived.Test.YtcpchdnhhjhpaaaBx
import Derived.Test.YtcpchdnhhjhpaaaGl
import Derived.Test.YtcpchdnhhjhpaaaBt
import Derived.Test.YtcpchdnhhjhpaaaBx
import Derived.Test.YtcpchdnhhjhpaaaHi
import Derived.WalkKit
import Derived.Lib.LaidTab
import Derived.ProofKit
import Derived.LaidMore
import Derived.OpenShut
import Derived.ShutString
import Derived.ChangeOld
import Derived.Below
import Derived.Stop.Joined
import Derived.Stop.LaidErr
namespace Go.Proofs.Ytcpchdnhhjhpaaa.fnExactHeightsOf
open Go.ChangeShapes Go.WideShapes Go.ChangeAt Go.RowKit
open Go.ChangeMaps (open_string shut_string)
set_option linter.unusedVariables false

theorem own : ownKnob Try.prog.godebug = none := by kernel_rfl

theorem laidOut : laidOutB Try.prog = true := by kernel_rfl

set_option maxHeartbeats 4000000 in
set_option maxRecDepth 100000 in
theorem core (n0 : Int) (v01 : Value) (l01 : List Int) (v10 : Value) (l10 : List Int) (w : World) (w0 : (Lit.int .i64 n0).wf = true) (x01 : Ints w v01 l01) (x10 : Ints w v10 l10) (l'0 : List Int) (hl'0 : l'0.length ≤ 1048576) (hbig : (l01.length : Int) + (l10.length : Int) ≤ 1048576)
    (hs : ∀ (W : World) (u01 : Value) (u10 : Value), Ints W u01 l01 → Ints W u10 l10 → (u01 = .slice none 0 0 ∨ ∃ ad cap, u01 = .slice (some ad) l01.length cap) → (u10 = .slice none 0 0 ∨ ∃ ad cap, u10 = .slice (some ad) l10.length cap) → Calls Try.prog 62 #[.agg #[.int .i64 n0, u01], .agg #[u10]] W (fun e W' => ∃ vr0, e = .returned (vr0) ∧ OwnI W.heap.size W' vr0 l'0 ∧ Below W.heap.size W W'))
    (hi : ∀ (W : World) (u01 : Value) (u10 : Value), Ints W u01 l01 → Ints W u10 l10 → (u01 = .slice none 0 0 ∨ ∃ ad cap, u01 = .slice (some ad) l01.length cap) → (u10 = .slice none 0 0 ∨ ∃ ad cap, u10 = .slice (some ad) l10.length cap) → Calls Try.prog 64 #[.agg #[.int .i64 n0, u01], .agg #[u10]] W (fun e W' => ∃ vr0, e = .returned (vr0) ∧ OwnI W.heap.size W' vr0 l'0 ∧ Below W.heap.size W W')) :
    Calls Try.prog 14 #[.agg #[.int .i64 n0, v01], .agg #[v10]] w fun e w' => e = .returned (.bool true) ∧ Below w.heap.size w w' := by
  obtain ⟨a01, cap01, rfl, -, hm01⟩ := x01.form
  have HX01 := Lib.hid x01
  unfold maxLen at hm01
  clear hm01
  obtain ⟨a10, cap10, rfl, -, hm10⟩ := x10.form
  have HX10 := Lib.hid x10
  unfold maxLen at hm10
  clear hm10
  have HS := Lib.hid hs
  have HI := Lib.hid hi
  clear hs hi w0 x01 x10 
  have hp01 : (0 : Int) ≤ 1048576 - l01.length := by omega
  have hp10 : (0 : Int) ≤ 1048576 - l01.length - l10.length := by omega
  have hl901 : l01.length ≤ 100000000 := by omega
  have hl601 : l01.length ≤ 1048576 := by omega
  have hl910 : l10.length ≤ 100000000 := by omega
  have hl610 : l10.length ≤ 1048576 := by omega
  have hl9'0 : l'0.length ≤ 100000000 := by omega
  have BA0_0 := Lib.hid (show Box (w.heap.size) [.int .i64 n0, .slice a01 l01.length cap01] ((w.alloc (.cells #[.int .i64 n0, .slice a01 l01.length cap01] 24)).alloc (.cells #[.slice a10 l10.length cap10] 76)) from ((Box.new w 24 [.int .i64 n0, .slice a01 l01.length cap01]).keep (grown_alloc _ (.cells #[.slice a10 l10.length cap10] 76) none) (by simp)))
  have BA1_0 := Lib.hid (show Box (w.heap.size + 1) [.slice a10 l10.length cap10] ((w.alloc (.cells #[.int .i64 n0, .slice a01 l01.length cap01] 24)).alloc (.cells #[.slice a10 l10.length cap10] 76)) by have h := (Box.new (w.alloc (.cells #[.int .i64 n0, .slice a01 l01.length cap01] 24)) 76 [.slice a10 l10.length cap10]); simpa using h)
  have F0 := Lib.hid (show Below w.heap.size w ((w.alloc (.cells #[.int .i64 n0, .slice a01 l01.length cap01] 24)).alloc (.cells #[.slice a10 l10.length cap10] 76)) from (((Below.refl _ w).alloc (Nat.le_refl _) (.cells #[.int .i64 n0, .slice a01 l01.length cap01] 24)).alloc (by simp <;> omega) (.cells #[.slice a10 l10.length cap10] 76)))
  go_enter Try.func14, Try.ntmps14
  have cA00 : ((w.alloc (.cells #[.int .i64 n0, .slice a01 l01.length cap01] 24)).alloc (.cells #[.slice a10 l10.length cap10] 76)).cell? ⟨w.heap.size, 0, none⟩ = some (.int .i64 n0) := BA0_0.out.1 0 _ rfl
  have cA01 : ((w.alloc (.cells #[.int .i64 n0, .slice a01 l01.length cap01] 24)).alloc (.cells #[.slice a10 l10.length cap10] 76)).cell? ⟨w.heap.size, 1, none⟩ = some (.slice a01 l01.length cap01) := BA0_0.out.1 1 _ rfl
  have cA0z := BA0_0.out.2.2
  go_wp2_with fail
  refine (szGraph_fits n0 _ l01 _ _ (HX01.out.on F0.out) (by omega) (by omega)).mono ?_
  rintro e w1 ⟨rfl, hb⟩
  have BA0_1 := Lib.hid (BA0_0.out.on hb)
  have BA1_1 := Lib.hid (BA1_0.out.on hb)
  have F1 := Lib.hid (F0.out.trans (hb.mono F0.out.size))
  have hz0 : w.heap.size + 2 ≤ w1.heap.size := BA1_1.out.2.2
  clear BA0_0 BA1_0 F0 hb cA00 cA01 cA0z
  have cA10 : w1.cell? ⟨w.heap.size + 1, 0, none⟩ = some (.slice a10 l10.length cap10) := BA1_1.out.1 0 _ rfl
  have cA1z := BA1_1.out.2.2
  go_wp2_with fail
  refine (szOrientation_fits _ l10 _ _ (HX10.out.on F1.out) (by omega) (by omega)).mono ?_
  rintro e w2 ⟨rfl, hb⟩
  have BA0_2 := Lib.hid (BA0_1.out.on hb)
  have BA1_2 := Lib.hid (BA1_1.out.on hb)
  have F2 := Lib.hid (F1.out.trans (hb.mono F1.out.size))
  have hz1 : w1.heap.size ≤ w2.heap.size := hb.size
  clear BA0_1 BA1_1 F1 hb cA10 cA1z
  have HR : Hid (∀ W, Below w2.heap.size w2 W → W.cell? ⟨w.heap.size, 0, none⟩ = some (.int .i64 n0) ∧ W.cell? ⟨w.heap.size, 1, none⟩ = some (.slice a01 l01.length cap01) ∧ W.cell? ⟨w.heap.size + 1, 0, none⟩ = some (.slice a10 l10.length cap10) ∧ Ints W (.slice a01 l01.length cap01) l01 ∧ Ints W (.slice a10 l10.length cap10) l10 ∧ Below w2.heap.size w2 W) := fun W hb => ⟨(BA0_2.out.on hb).1 0 _ rfl, (BA0_2.out.on hb).1 1 _ rfl, (BA1_2.out.on hb).1 0 _ rfl, HX01.out.on (F2.out.trans (hb.mono F2.out.size)), HX10.out.on (F2.out.trans (hb.mono F2.out.size)), hb⟩
  go_wp2
  go_region_held3 (fun w' => w'.cell? ⟨w.heap.size, 0, none⟩ = some (.int .i64 n0) ∧ w'.cell? ⟨w.heap.size, 1, none⟩ = some (.slice a01 l01.length cap01) ∧ w'.cell? ⟨w.heap.size + 1, 0, none⟩ = some (.slice a10 l10.length cap10) ∧ Ints w' (.slice a01 l01.length cap01) l01 ∧ Ints w' (.slice a10 l10.length cap10) l10 ∧ Below w2.heap.size w2 w')
    (first | exact HR.out _ (Below.refl _ _).drew | exact HR.out _ (Below.refl _ _) | (go_split_ands; exact HR.out _ (btrans (by assumption) hb)))
    (first
      | ((go_at_call 18); go_split_ands; refine (toGraph_any n0 _ l01 _ (by assumption) hl601).mono ?_; rintro e wa0 ⟨tw01, rfl, ho01, hb⟩; (first | (replace ho10 := ho10.keep (below_grown hb) (by simp)) | skip))
      | ((go_at_call 63); go_split_ands; refine (toOrientation_any _ l10 _ (by assumption) hl610).mono ?_; rintro e wa1 ⟨tw10, rfl, ho10, hb⟩; (first | (replace ho01 := ho01.keep (below_grown hb) (by simp)) | skip))
      | (go_at_call 62; go_split_ands; refine (HS.out _ _ _ ho01.ints ho10.ints ho01.nilform ho10.nilform).mono ?_; rintro e w3 ⟨vw0, rfl, hr0, hb⟩; replace hr0 := hr0.mono (Below.size (by assumption))))
  go_split_ands
  have hbE : Below w2.heap.size w2 w3 := by assumption
  have BA0_3 := Lib.hid (BA0_2.out.on hbE)
  have BA1_3 := Lib.hid (BA1_2.out.on hbE)
  have F3 := Lib.hid (F2.out.trans (hbE.mono F2.out.size))
  have hz2 : w2.heap.size ≤ w3.heap.size := hbE.size
  have ho0 := hr0
  have OW0_3 := Lib.hid (show OwnR w2.heap.size w3.heap.size w3 (vw0) l'0 from ⟨ho0, fun k hk => (ho0.lt k hk).2⟩)
  clear BA0_2 BA1_2 F2 HR hbE hb ho01 ho10 hr0 ho0
  have cA00 : w3.cell? ⟨w.heap.size, 0, none⟩ = some (.int .i64 n0) := BA0_3.out.1 0 _ rfl
  have cA01 : w3.cell? ⟨w.heap.size, 1, none⟩ = some (.slice a01 l01.length cap01) := BA0_3.out.1 1 _ rfl
  have cA0z := BA0_3.out.2.2
  go_wp2_with fail
  refine (toGraph_any n0 _ l01 _ (HX01.out.on F3.out) hl601).mono ?_
  rintro e w4 ⟨vx01, rfl, ho01, hb⟩
  have BA0_4 := Lib.hid (BA0_3.out.on hb)
  have BA1_4 := Lib.hid (BA1_3.out.on hb)
  have OW0_4 := Lib.hid (OW0_3.out.on hb)
  have F4 := Lib.hid (F3.out.trans (hb.mono F3.out.size))
  have hz3 : w3.heap.size ≤ w4.heap.size := hb.size
  have OX01_4 := Lib.hid (show OwnR w3.heap.size w4.heap.size w4 (vx01) l01 from ⟨ho01, fun k hk => (ho01.lt k hk).2⟩)
  clear BA0_3 BA1_3 OW0_3 F3 hb ho01 cA00 cA01 cA0z
  obtain ⟨ax01, capx01, hvx01⟩ : ∃ a c, vx01 = .slice a l01.length c := by obtain ⟨a, c, h, -, -⟩ := OX01_4.out.1.ints.form; exact ⟨a, c, h⟩
  subst hvx01
  obtain ⟨w5, hw5⟩ : ∃ w5, w5 = w4.alloc (.cells #[.int .i64 n0, .slice ax01 l01.length capx01] 28) := ⟨_, rfl⟩
  have hb : Below w4.heap.size w4 w5 := by rw [hw5]; exact (Below.refl _ _).alloc (Nat.le_refl _) _
  have hzs4 : w4.heap.size < w5.heap.size := by rw [hw5]; simp
  have cA10 : w4.cell? ⟨w.heap.size + 1, 0, none⟩ = some (.slice a10 l10.length cap10) := BA1_4.out.1 0 _ rfl
  have cA1z := BA1_4.out.2.2
  have BA0_5 := Lib.hid (BA0_4.out.on hb)
  have BA1_5 := Lib.hid (BA1_4.out.on hb)
  have OW0_5 := Lib.hid (OW0_4.out.on hb)
  have OX01_5 := Lib.hid (OX01_4.out.on hb)
  have F5 := Lib.hid (F4.out.trans (hb.mono F4.out.size))
  have hz4 : w4.heap.size ≤ w5.heap.size := hb.size
  have BX0_5 := Lib.hid (show Box w4.heap.size [.int .i64 n0, .slice ax01 l01.length capx01] w5 by rw [hw5]; exact Box.new w4 _ _)
  go_wp2_with fail
  rw [← hw5]
  clear BA0_4 BA1_4 OW0_4 OX01_4 F4 hb hw5 cA10 cA1z
  refine (toOrientation_any _ l10 _ (HX10.out.on F5.out) hl610).mono ?_
  rintro e w6 ⟨vx10, rfl, ho10, hb⟩
  have BA0_6 := Lib.hid (BA0_5.out.on hb)
  have BA1_6 := Lib.hid (BA1_5.out.on hb)
  have BX0_6 := Lib.hid (BX0_5.out.on hb)
  have OW0_6 := Lib.hid (OW0_5.out.on hb)
  have OX01_6 := Lib.hid (OX01_5.out.on hb)
  have F6 := Lib.hid (F5.out.trans (hb.mono F5.out.size))
  have hz5 : w5.heap.size ≤ w6.heap.size := hb.size
  have OX10_6 := Lib.hid (show OwnR w5.heap.size w6.heap.size w6 (vx10) l10 from ⟨ho10, fun k hk => (ho10.lt k hk).2⟩)
  clear BA0_5 BA1_5 BX0_5 OW0_5 OX01_5 F5 hb ho10
  obtain ⟨ax10, capx10, hvx10⟩ : ∃ a c, vx10 = .slice a l10.length c := by obtain ⟨a, c, h, -, -⟩ := OX10_6.out.1.ints.form; exact ⟨a, c, h⟩
  subst hvx10
  obtain ⟨w7, hw7⟩ : ∃ w7, w7 = w6.alloc (.cells #[.slice ax10 l10.length capx10] 79) := ⟨_, rfl⟩
  have hb : Below w6.heap.size w6 w7 := by rw [hw7]; exact (Below.refl _ _).alloc (Nat.le_refl _) _
  have hzs6 : w6.heap.size < w7.heap.size := by rw [hw7]; simp
  have cX00 : w6.cell? ⟨w4.heap.size, 0, none⟩ = some (.int .i64 n0) := BX0_6.out.1 0 _ rfl
  have cX01 : w6.cell? ⟨w4.heap.size, 1, none⟩ = some (.slice ax01 l01.length capx01) := BX0_6.out.1 1 _ rfl
  have cX0z := BX0_6.out.2.2
  have BA0_7 := Lib.hid (BA0_6.out.on hb)
  have BA1_7 := Lib.hid (BA1_6.out.on hb)
  have BX0_7 := Lib.hid (BX0_6.out.on hb)
  have OW0_7 := Lib.hid (OW0_6.out.on hb)
  have OX01_7 := Lib.hid (OX01_6.out.on hb)
  have OX10_7 := Lib.hid (OX10_6.out.on hb)
  have F7 := Lib.hid (F6.out.trans (hb.mono F6.out.size))
  have hz6 : w6.heap.size ≤ w7.heap.size := hb.size
  have BX1_7 := Lib.hid (show Box w6.heap.size [.slice ax10 l10.length capx10] w7 by rw [hw7]; exact Box.new w6 _ _)
  go_wp2_with fail
  rw [← hw7]
  clear BA0_6 BA1_6 BX0_6 OW0_6 OX01_6 OX10_6 F6 hb hw7 cX00 cX01 cX0z
  refine (HI.out _ _ _ OX01_7.out.1.ints OX10_7.out.1.ints OX01_7.out.1.nilform OX10_7.out.1.nilform).mono ?_
  rintro e w8 ⟨vg0, rfl, ho0, hb⟩
  have BA0_8 := Lib.hid (BA0_7.out.on hb)
  have BA1_8 := Lib.hid (BA1_7.out.on hb)
  have BX0_8 := Lib.hid (BX0_7.out.on hb)
  have BX1_8 := Lib.hid (BX1_7.out.on hb)
  have OW0_8 := Lib.hid (OW0_7.out.on hb)
  have OX01_8 := Lib.hid (OX01_7.out.on hb)
  have OX10_8 := Lib.hid (OX10_7.out.on hb)
  have F8 := Lib.hid (F7.out.trans (hb.mono F7.out.size))
  have hz7 : w7.heap.size ≤ w8.heap.size := hb.size
  have OG0_8 := Lib.hid (show OwnR w7.heap.size w8.heap.size w8 (vg0) l'0 from ⟨ho0, fun k hk => (ho0.lt k hk).2⟩)
  clear BA0_7 BA1_7 BX0_7 BX1_7 OW0_7 OX01_7 OX10_7 F7 hb ho0
  go_wp2_with fail
  refine (eqIntS_same _ _ l'0 _ OG0_8.out.1.ints OW0_8.out.1.ints hl9'0).mono ?_
  rintro e w9 ⟨rfl, hb⟩
  have BA0_9 := Lib.hid (BA0_8.out.on hb)
  have BA1_9 := Lib.hid (BA1_8.out.on hb)
  have BX0_9 := Lib.hid (BX0_8.out.on hb)
  have BX1_9 := Lib.hid (BX1_8.out.on hb)
  have OW0_9 := Lib.hid (OW0_8.out.on hb)
  have OX01_9 := Lib.hid (OX01_8.out.on hb)
  have OX10_9 := Lib.hid (OX10_8.out.on hb)
  have OG0_9 := Lib.hid (OG0_8.out.on hb)
  have F9 := Lib.hid (F8.out.trans (hb.mono F8.out.size))
  have hz8 : w8.heap.size ≤ w9.heap.size := hb.size
  clear BA0_8 BA1_8 BX0_8 BX1_8 OW0_8 OX01_8 OX10_8 OG0_8 F8 hb
  have HR : Hid (∀ W, Below w9.heap.size w9 W → W.cell? ⟨w.heap.size, 0, none⟩ = some (.int .i64 n0) ∧ W.cell? ⟨w.heap.size, 1, none⟩ = some (.slice a01 l01.length cap01) ∧ W.cell? ⟨w4.heap.size, 0, none⟩ = some (.int .i64 n0) ∧ W.cell? ⟨w4.heap.size, 1, none⟩ = some (.slice ax01 l01.length capx01) ∧ Ints W (.slice a01 l01.length cap01) l01 ∧ Ints W (.slice ax01 l01.length capx01) l01 ∧ Below w9.heap.size w9 W) := fun W hb => ⟨(BA0_9.out.on hb).1 0 _ rfl, (BA0_9.out.on hb).1 1 _ rfl, (BX0_9.out.on hb).1 0 _ rfl, (BX0_9.out.on hb).1 1 _ rfl, HX01.out.on (F9.out.trans (hb.mono F9.out.size)), (OX01_9.out.on hb).1.ints, hb⟩
  go_wp2
  go_region_held3 (fun w' => w'.cell? ⟨w.heap.size, 0, none⟩ = some (.int .i64 n0) ∧ w'.cell? ⟨w.heap.size, 1, none⟩ = some (.slice a01 l01.length cap01) ∧ w'.cell? ⟨w4.heap.size, 0, none⟩ = some (.int .i64 n0) ∧ w'.cell? ⟨w4.heap.size, 1, none⟩ = some (.slice ax01 l01.length capx01) ∧ Ints w' (.slice a01 l01.length cap01) l01 ∧ Ints w' (.slice ax01 l01.length capx01) l01 ∧ Below w9.heap.size w9 w')
    (first | exact HR.out _ (Below.refl _ _).drew | exact HR.out _ (Below.refl _ _) | (go_split_ands; exact HR.out _ (btrans (by assumption) hb)))
    (first
      | (go_at_call 18; go_split_ands; refine (toGraph_any n0 _ l01 _ (by assumption) hl601).mono ?_; rintro e wa ⟨vy01, rfl, ho01, hb⟩)
      | (go_at_call 21; go_split_ands; refine (eqGraph_same n0 _ _ l01 _ (by assumption) ho01.ints hl901).mono ?_; rintro e w10 ⟨rfl, hb⟩))
  go_split_ands
  have hbE : Below w9.heap.size w9 w10 := by assumption
  have BA0_10 := Lib.hid (BA0_9.out.on hbE)
  have BA1_10 := Lib.hid (BA1_9.out.on hbE)
  have BX0_10 := Lib.hid (BX0_9.out.on hbE)
  have BX1_10 := Lib.hid (BX1_9.out.on hbE)
  have OW0_10 := Lib.hid (OW0_9.out.on hbE)
  have OX01_10 := Lib.hid (OX01_9.out.on hbE)
  have OX10_10 := Lib.hid (OX10_9.out.on hbE)
  have OG0_10 := Lib.hid (OG0_9.out.on hbE)
  have F10 := Lib.hid (F9.out.trans (hbE.mono F9.out.size))
  have hz9 : w9.heap.size ≤ w10.heap.size := hbE.size
  clear BA0_9 BA1_9 BX0_9 BX1_9 OW0_9 OX01_9 OX10_9 OG0_9 F9 HR hbE hb ho01
  have HR : Hid (∀ W, Below w10.heap.size w10 W → W.cell? ⟨w.heap.size + 1, 0, none⟩ = some (.slice a10 l10.length cap10) ∧ W.cell? ⟨w6.heap.size, 0, none⟩ = some (.slice ax10 l10.length capx10) ∧ Ints W (.slice a10 l10.length cap10) l10 ∧ Ints W (.slice ax10 l10.length capx10) l10 ∧ Below w10.heap.size w10 W) := fun W hb => ⟨(BA1_10.out.on hb).1 0 _ rfl, (BX1_10.out.on hb).1 0 _ rfl, HX10.out.on (F10.out.trans (hb.mono F10.out.size)), (OX10_10.out.on hb).1.ints, hb⟩
  go_wp2
  go_region_held3 (fun w' => w'.cell? ⟨w.heap.size + 1, 0, none⟩ = some (.slice a10 l10.length cap10) ∧ w'.cell? ⟨w6.heap.size, 0, none⟩ = some (.slice ax10 l10.length capx10) ∧ Ints w' (.slice a10 l10.length cap10) l10 ∧ Ints w' (.slice ax10 l10.length capx10) l10 ∧ Below w10.heap.size w10 w')
    (first | exact HR.out _ (Below.refl _ _).drew | exact HR.out _ (Below.refl _ _) | (go_split_ands; exact HR.out _ (btrans (by assumption) hb)))
    (first
      | (go_at_call 63; go_split_ands; refine (toOrientation_any _ l10 _ (by assumption) hl610).mono ?_; rintro e wa ⟨vy10, rfl, ho10, hb⟩)
      | (go_at_call 65; go_split_ands; refine (eqOrientation_same _ _ l10 _ (by assumption) ho10.ints hl910).mono ?_; rintro e w11 ⟨rfl, hb⟩))
  go_split_ands
  have hbE : Below w10.heap.size w10 w11 := by assumption
  have BA0_11 := Lib.hid (BA0_10.out.on hbE)
  have BA1_11 := Lib.hid (BA1_10.out.on hbE)
  have BX0_11 := Lib.hid (BX0_10.out.on hbE)
  have BX1_11 := Lib.hid (BX1_10.out.on hbE)
  have OW0_11 := Lib.hid (OW0_10.out.on hbE)
  have OX01_11 := Lib.hid (OX01_10.out.on hbE)
  have OX10_11 := Lib.hid (OX10_10.out.on hbE)
  have OG0_11 := Lib.hid (OG0_10.out.on hbE)
  have F11 := Lib.hid (F10.out.trans (hbE.mono F10.out.size))
  have hz10 : w10.heap.size ≤ w11.heap.size := hbE.size
  clear BA0_10 BA1_10 BX0_10 BX1_10 OW0_10 OX01_10 OX10_10 OG0_10 F10 HR hbE hb ho10
  have cX00 : w11.cell? ⟨w4.heap.size, 0, none⟩ = some (.int .i64 n0) := BX0_11.out.1 0 _ rfl
  have cX01 : w11.cell? ⟨w4.heap.size, 1, none⟩ = some (.slice ax01 l01.length capx01) := BX0_11.out.1 1 _ rfl
  have cX0z := BX0_11.out.2.2
  go_wp2_with fail
  refine (markGraph_any _ n0 _ l01 (1 : Int) _ OX01_11.out.1 hl901 (by omega) (by omega)).mono ?_
  rintro e w12 ⟨rfl, ho, hg⟩
  have hO := Only.of_grown hg (fun k hk => ⟨(OX01_11.out.1.lt k hk).1, OX01_11.out.2 k hk⟩)
  have BA0_12 := Lib.hid (BA0_11.out.keepO hO (by omega))
  have BA1_12 := Lib.hid (BA1_11.out.keepO hO (by omega))
  have BX1_12 := Lib.hid (BX1_11.out.keepO hO (by omega))
  have OW0_12 := Lib.hid (OW0_11.out.keepO hO (by omega))
  have OX10_12 := Lib.hid (OX10_11.out.keepO hO (by omega))
  have OG0_12 := Lib.hid (OG0_11.out.keepO hO (by omega))
  have F12 := Lib.hid (Below.only F11.out hO (by omega) (Nat.le_refl _))
  have hz11 : w11.heap.size ≤ w12.heap.size := hO.size
  clear BA0_11 BA1_11 BX0_11 BX1_11 OW0_11 OX01_11 OX10_11 OG0_11 F11 hg ho hO cX00 cX01 cX0z
  have cX10 : w12.cell? ⟨w6.heap.size, 0, none⟩ = some (.slice ax10 l10.length capx10) := BX1_12.out.1 0 _ rfl
  have cX1z := BX1_12.out.2.2
  go_wp2_with fail
  refine (markOrientation_any _ _ l10 ((1 : Int) + l01.length) _ OX10_12.out.1 hl910 (by omega) (by omega)).mono ?_
  rintro e w13 ⟨rfl, ho, hg⟩
  have hO := Only.of_grown hg (fun k hk => ⟨(OX10_12.out.1.lt k hk).1, OX10_12.out.2 k hk⟩)
  have BA0_13 := Lib.hid (BA0_12.out.keepO hO (by omega))
  have BA1_13 := Lib.hid (BA1_12.out.keepO hO (by omega))
  have OW0_13 := Lib.hid (OW0_12.out.keepO hO (by omega))
  have OG0_13 := Lib.hid (OG0_12.out.keepO hO (by omega))
  have F13 := Lib.hid (Below.only F12.out hO (by omega) (Nat.le_refl _))
  have hz12 : w12.heap.size ≤ w13.heap.size := hO.size
  clear BA0_12 BA1_12 BX1_12 OW0_12 OX10_12 OG0_12 F12 hg ho hO cX10 cX1z
  have hk : decide ((((1 : Int) + l01.length) + l10.length) < 0) = false := by simp; omega
  go_wp2_with fail
  refine (eqIntS_same _ _ l'0 _ OG0_13.out.1.ints OW0_13.out.1.ints hl9'0).mono ?_
  rintro e w14 ⟨rfl, hb⟩
  have BA0_14 := Lib.hid (BA0_13.out.on hb)
  have BA1_14 := Lib.hid (BA1_13.out.on hb)
  have OW0_14 := Lib.hid (OW0_13.out.on hb)
  have OG0_14 := Lib.hid (OG0_13.out.on hb)
  have F14 := Lib.hid (F13.out.trans (hb.mono F13.out.size))
  have hz13 : w13.heap.size ≤ w14.heap.size := hb.size
  clear BA0_13 BA1_13 OW0_13 OG0_13 F13 hb
  go_wp2_with fail
  refine (markIntS_any _ _ l'0 1 _ OG0_14.out.1 hl9'0 (by omega) (by omega)).mono ?_
  rintro e w15 ⟨rfl, ho, hg⟩
  have hO := Only.of_grown hg (fun k hk => ⟨(OG0_14.out.1.lt k hk).1, OG0_14.out.2 k hk⟩)
  have hG2 := OG0_14.out.2
  have BA0_15 := Lib.hid (BA0_14.out.keepO hO (by omega))
  have BA1_15 := Lib.hid (BA1_14.out.keepO hO (by omega))
  have OW0_15 := Lib.hid (OW0_14.out.keepO hO (by omega))
  have F15 := Lib.hid (Below.only F14.out hO (by omega) (Nat.le_refl _))
  have hz14 : w14.heap.size ≤ w15.heap.size := hO.size
  have OG0_15 := Lib.hid (show OwnR _ _ w15 (vg0) (marks 1 l'0.length) from ⟨ho, hG2⟩)
  clear BA0_14 BA1_14 OW0_14 OG0_14 F14 hO ho hg hG2
  go_wp2_with fail
  refine (heldIntS_any _ 1 l'0.length _ OG0_15.out.1.ints hl9'0 (by omega) (by omega)).mono ?_
  rintro e w16 ⟨rfl, hb⟩
  replace hb := eq_below hb
  have BA0_16 := Lib.hid (BA0_15.out.on hb)
  have BA1_16 := Lib.hid (BA1_15.out.on hb)
  have OW0_16 := Lib.hid (OW0_15.out.on hb)
  have OG0_16 := Lib.hid (OG0_15.out.on hb)
  have F16 := Lib.hid (F15.out.trans (hb.mono F15.out.size))
  have hz15 : w15.heap.size ≤ w16.heap.size := hb.size
  clear BA0_15 BA1_15 OW0_15 OG0_15 F15 hb
  have hk' : decide ((1 : Int) + l'0.length < 0) = false := by simp; omega
  have hq : ((1 : Int) + l'0.length != 1 + l'0.length) = false := by simp
  have HR : Hid (∀ W, Below w16.heap.size w16 W → W.cell? ⟨w.heap.size, 0, none⟩ = some (.int .i64 n0) ∧ W.cell? ⟨w.heap.size, 1, none⟩ = some (.slice a01 l01.length cap01) ∧ W.cell? ⟨w.heap.size + 1, 0, none⟩ = some (.slice a10 l10.length cap10) ∧ Ints W (.slice a01 l01.length cap01) l01 ∧ Ints W (.slice a10 l10.length cap10) l10 ∧ Below w16.heap.size w16 W) := fun W hb => ⟨(BA0_16.out.on hb).1 0 _ rfl, (BA0_16.out.on hb).1 1 _ rfl, (BA1_16.out.on hb).1 0 _ rfl, HX01.out.on (F16.out.trans (hb.mono F16.out.size)), HX10.out.on (F16.out.trans (hb.mono F16.out.size)), hb⟩
  go_wp2
  go_region_held3 (fun w' => w'.cell? ⟨w.heap.size, 0, none⟩ = some (.int .i64 n0) ∧ w'.cell? ⟨w.heap.size, 1, none⟩ = some (.slice a01 l01.length cap01) ∧ w'.cell? ⟨w.heap.size + 1, 0, none⟩ = some (.slice a10 l10.length cap10) ∧ Ints w' (.slice a01 l01.length cap01) l01 ∧ Ints w' (.slice a10 l10.length cap10) l10 ∧ Below w16.heap.size w16 w')
    (first | exact HR.out _ (Below.refl _ _).drew | exact HR.out _ (Below.refl _ _) | (go_split_ands; exact HR.out _ (btrans (by assumption) hb)))
    (first
      | ((go_at_call 18); go_split_ands; refine (toGraph_any n0 _ l01 _ (by assumption) hl601).mono ?_; rintro e wa0 ⟨th01, rfl, ho01, hb⟩; (first | (replace ho10 := ho10.keep (below_grown hb) (by simp)) | skip))
      | ((go_at_call 63); go_split_ands; refine (toOrientation_any _ l10 _ (by assumption) hl610).mono ?_; rintro e wa1 ⟨th10, rfl, ho10, hb⟩; (first | (replace ho01 := ho01.keep (below_grown hb) (by simp)) | skip))
      | (go_at_call 64; go_split_ands; refine (HI.out _ _ _ ho01.ints ho10.ints ho01.nilform ho10.nilform).mono ?_; rintro e w17 ⟨vh0, rfl, hr0, hb⟩; replace hr0 := hr0.mono (Below.size (by assumption))))
  go_split_ands
  have hbE : Below w16.heap.size w16 w17 := by assumption
  have BA0_17 := Lib.hid (BA0_16.out.on hbE)
  have BA1_17 := Lib.hid (BA1_16.out.on hbE)
  have OW0_17 := Lib.hid (OW0_16.out.on hbE)
  have OG0_17 := Lib.hid (OG0_16.out.on hbE)
  have F17 := Lib.hid (F16.out.trans (hbE.mono F16.out.size))
  have hz16 : w16.heap.size ≤ w17.heap.size := hbE.size
  have ho0 := hr0
  have OH0_17 := Lib.hid (show OwnR w16.heap.size w17.heap.size w17 (vh0) l'0 from ⟨ho0, fun k hk => (ho0.lt k hk).2⟩)
  clear BA0_16 BA1_16 OW0_16 OG0_16 F16 HR hbE hb ho01 ho10 hr0 ho0
  go_wp2_with fail
  refine (eqIntS_same _ _ l'0 _ OH0_17.out.1.ints OW0_17.out.1.ints hl9'0).mono ?_
  rintro e w18 ⟨rfl, hb⟩
  have BA0_18 := Lib.hid (BA0_17.out.on hb)
  have BA1_18 := Lib.hid (BA1_17.out.on hb)
  have OW0_18 := Lib.hid (OW0_17.out.on hb)
  have OG0_18 := Lib.hid (OG0_17.out.on hb)
  have OH0_18 := Lib.hid (OH0_17.out.on hb)
  have F18 := Lib.hid (F17.out.trans (hb.mono F17.out.size))
  have hz17 : w17.heap.size ≤ w18.heap.size := hb.size
  clear BA0_17 BA1_17 OW0_17 OG0_17 OH0_17 F17 hb
  go_wp2_with fail
  refine (heldIntS_any _ 1 l'0.length _ OG0_18.out.1.ints hl9'0 (by omega) (by omega)).mono ?_
  rintro e w19 ⟨rfl, hb⟩
  replace hb := eq_below hb
  have BA0_19 := Lib.hid (BA0_18.out.on hb)
  have BA1_19 := Lib.hid (BA1_18.out.on hb)
  have OW0_19 := Lib.hid (OW0_18.out.on hb)
  have OG0_19 := Lib.hid (OG0_18.out.on hb)
  have F19 := Lib.hid (F18.out.trans (hb.mono F18.out.size))
  have hz18 : w18.heap.size ≤ w19.heap.size := hb.size
  clear BA0_18 BA1_18 OW0_18 OG0_18 F18 hb
  go_wp2
  go_ret
  exact ⟨rfl, F19.out⟩

set_option maxHeartbeats 1000000 in
set_option maxRecDepth 100000 in
theorem walk (n0 : Int) (v01 : Value) (l01 : List Int) (v10 : Value) (l10 : List Int) (w : World) (w0 : (Lit.int .i64 n0).wf = true) (x01 : Ints w v01 l01) (x10 : Ints w v10 l10) : Calls Try.prog 14 #[.agg #[.int .i64 n0, v01], .agg #[v10]] w fun e w' => e = .returned (.bool true) ∧ Below w.heap.size w w' := by
  by_cases hb0 : 1048576 < (l01.length : Int)
  · skip
    obtain ⟨a01, cap01, rfl, -, hm01⟩ := x01.form
    have HX01 := Lib.hid x01
    obtain ⟨a10, cap10, rfl, -, hm10⟩ := x10.form
    have HX10 := Lib.hid x10
    clear w0 x01 x10 
    have BA0_0 := Lib.hid (show Box (w.heap.size) [.int .i64 n0, .slice a01 l01.length cap01] ((w.alloc (.cells #[.int .i64 n0, .slice a01 l01.length cap01] 24)).alloc (.cells #[.slice a10 l10.length cap10] 76)) from ((Box.new w 24 [.int .i64 n0, .slice a01 l01.length cap01]).keep (grown_alloc _ (.cells #[.slice a10 l10.length cap10] 76) none) (by simp)))
    have BA1_0 := Lib.hid (show Box (w.heap.size + 1) [.slice a10 l10.length cap10] ((w.alloc (.cells #[.int .i64 n0, .slice a01 l01.length cap01] 24)).alloc (.cells #[.slice a10 l10.length cap10] 76)) by have h := (Box.new (w.alloc (.cells #[.int .i64 n0, .slice a01 l01.length cap01] 24)) 76 [.slice a10 l10.length cap10]); simpa using h)
    have F0 := Lib.hid (show Below w.heap.size w ((w.alloc (.cells #[.int .i64 n0, .slice a01 l01.length cap01] 24)).alloc (.cells #[.slice a10 l10.length cap10] 76)) from (((Below.refl _ w).alloc (Nat.le_refl _) (.cells #[.int .i64 n0, .slice a01 l01.length cap01] 24)).alloc (by simp <;> omega) (.cells #[.slice a10 l10.length cap10] 76)))
    go_enter Try.func14, Try.ntmps14
    have cc00 : ((w.alloc (.cells #[.int .i64 n0, .slice a01 l01.length cap01] 24)).alloc (.cells #[.slice a10 l10.length cap10] 76)).cell? ⟨w.heap.size, 0, none⟩ = some (.int .i64 n0) := BA0_0.out.1 0 _ rfl
    have cc01 : ((w.alloc (.cells #[.int .i64 n0, .slice a01 l01.length cap01] 24)).alloc (.cells #[.slice a10 l10.length cap10] 76)).cell? ⟨w.heap.size, 1, none⟩ = some (.slice a01 l01.length cap01) := BA0_0.out.1 1 _ rfl
    go_wp2_with fail
    refine (szGraph_over n0 _ l01 _ _ (HX01.out.on F0.out) (by omega) (by omega)).mono ?_
    rintro e w1 ⟨rfl, hb⟩
    have BA0_1 := Lib.hid (BA0_0.out.on hb)
    have BA1_1 := Lib.hid (BA1_0.out.on hb)
    have F1 := Lib.hid (F0.out.trans (hb.mono F0.out.size))
    clear hb BA0_0 BA1_0 F0 cc00 cc01
    go_wp2
    go_ret
    exact ⟨rfl, F1.out⟩
  by_cases hb1 : 1048576 < (l01.length : Int) + (l10.length : Int)
  · skip
    obtain ⟨a01, cap01, rfl, -, hm01⟩ := x01.form
    have HX01 := Lib.hid x01
    obtain ⟨a10, cap10, rfl, -, hm10⟩ := x10.form
    have HX10 := Lib.hid x10
    clear w0 x01 x10 
    have hp01 : (0 : Int) ≤ 1048576 - l01.length := by omega
    have BA0_0 := Lib.hid (show Box (w.heap.size) [.int .i64 n0, .slice a01 l01.length cap01] ((w.alloc (.cells #[.int .i64 n0, .slice a01 l01.length cap01] 24)).alloc (.cells #[.slice a10 l10.length cap10] 76)) from ((Box.new w 24 [.int .i64 n0, .slice a01 l01.length cap01]).keep (grown_alloc _ (.cells #[.slice a10 l10.length cap10] 76) none) (by simp)))
    have BA1_0 := Lib.hid (show Box (w.heap.size + 1) [.slice a10 l10.length cap10] ((w.alloc (.cells #[.int .i64 n0, .slice a01 l01.length cap01] 24)).alloc (.cells #[.slice a10 l10.length cap10] 76)) by have h := (Box.new (w.alloc (.cells #[.int .i64 n0, .slice a01 l01.length cap01] 24)) 76 [.slice a10 l10.length cap10]); simpa using h)
    have F0 := Lib.hid (show Below w.heap.size w ((w.alloc (.cells #[.int .i64 n0, .slice a01 l01.length cap01] 24)).alloc (.cells #[.slice a10 l10.length cap10] 76)) from (((Below.refl _ w).alloc (Nat.le_refl _) (.cells #[.int .i64 n0, .slice a01 l01.length cap01] 24)).alloc (by simp <;> omega) (.cells #[.slice a10 l10.length cap10] 76)))
    go_enter Try.func14, Try.ntmps14
    have cc00 : ((w.alloc (.cells #[.int .i64 n0, .slice a01 l01.length cap01] 24)).alloc (.cells #[.slice a10 l10.length cap10] 76)).cell? ⟨w.heap.size, 0, none⟩ = some (.int .i64 n0) := BA0_0.out.1 0 _ rfl
    have cc01 : ((w.alloc (.cells #[.int .i64 n0, .slice a01 l01.length cap01] 24)).alloc (.cells #[.slice a10 l10.length cap10] 76)).cell? ⟨w.heap.size, 1, none⟩ = some (.slice a01 l01.length cap01) := BA0_0.out.1 1 _ rfl
    go_wp2_with fail
    refine (szGraph_fits n0 _ l01 _ _ (HX01.out.on F0.out) (by omega) (by omega)).mono ?_
    rintro e w1 ⟨rfl, hb⟩
    have BA0_1 := Lib.hid (BA0_0.out.on hb)
    have BA1_1 := Lib.hid (BA1_0.out.on hb)
    have F1 := Lib.hid (F0.out.trans (hb.mono F0.out.size))
    clear hb BA0_0 BA1_0 F0 cc00 cc01
    have cc10 : w1.cell? ⟨w.heap.size + 1, 0, none⟩ = some (.slice a10 l10.length cap10) := BA1_1.out.1 0 _ rfl
    go_wp2_with fail
    refine (szOrientation_over _ l10 _ _ (HX10.out.on F1.out) (by omega) (by omega) (by omega)).mono ?_
    rintro e w2 ⟨rfl, hb⟩
    have BA0_2 := Lib.hid (BA0_1.out.on hb)
    have BA1_2 := Lib.hid (BA1_1.out.on hb)
    have F2 := Lib.hid (F1.out.trans (hb.mono F1.out.size))
    clear hb BA0_1 BA1_1 F1 cc10
    go_wp2
    go_ret
    exact ⟨rfl, F2.out⟩
  exact core n0 v01 l01 v10 l10 w w0 x01 x10 (hgtR n0 l01 l10) (Nat.le_trans (hgtR_length _ _ _) (by omega)) (by omega)
    (fun W u01 u10 h01 h10 _ _ => specHeights n0 u01 u10 l01 l10 W h01 h10 (by omega))
    (fun W u01 u10 h01 h10 _ _ => implHeights n0 u01 u10 l01 l10 W h01 h10 (by omega))

set_option maxRecDepth 100000 in
theorem lifted (os : Os) (started : os.Started) (H : Type) (enc : TypeId × Value → H) :
    ReturnsInHanded {} Try.checked os 14 .any (Rows.fnExactHeightsOfSpec.pre6 enc Try.prog Try.f14 Rows.fnExactHeightsOfRow.domain false) (Rows.fnExactHeightsOfSpec.post enc Try.prog Try.f14 false true false false) := by
  refine returnsInHanded_of_change (C := Try.checked) own started (by kernel_rfl) Try.func14
    (ChangeSpec.witness6 (enc := enc) (C := Try.checked) false ⟨#[], #[.agg #[.int .i64 0, .slice none 0 0], .agg #[.slice none 0 0]], []⟩ 8 (by kernel_rfl) (by kernel_rfl) (by kernel_rfl) (by kernel_rfl)) ?_
  intro W base args ds gs before hval0 hW hcnd _
  have hval : ∀ (j : Nat) t v, Try.f14.params[j]? = some t → args[j]? = some v → Value.okWide Try.prog W .any base t v := hval0
  have hW' := hW
  obtain ⟨p, q, hA0, hV, rfl, hfz, hnd⟩ := hW
  have hA : DataW.TrodAll enc Try.prog W 0 (fun _ => true) true Try.f14.params.toList args.toList ds p := hA0
  rw [Try.params14] at hA hval
  obtain ⟨v0, vs0, d0, ds0, p0, q0, hargs, rfl, rfl, h0, r0⟩ := trodAll_cons hA
  obtain ⟨v1, vs1, d1, ds1, p1, q1, rfl, rfl, rfl, h1, r1⟩ := trodAll_cons r0
  obtain ⟨rfl, rfl, rfl⟩ := trodAll_nil r1
  obtain rfl : args = #[v0, v1] := by cases args; simp_all
  obtain ⟨rfl, rfl⟩ := trodVars_none hV
  have k0 := h0
  obtain ⟨n0, u01, l01, rfl, w0, x01⟩ := open_is Try.underlying24 (by kernel_rfl) (by kernel_rfl) Try.underlying3 Try.underlying22 Try.underlying3 (by kernel_rfl) (hval 0 24 v0 rfl rfl) h0
  have k1 := h1
  obtain ⟨u10, l10, rfl, x10⟩ := open_s Try.underlying76 (by kernel_rfl) (by kernel_rfl) Try.underlying22 Try.underlying3 (by kernel_rfl) (hval 1 76 v1 rfl rfl) h1
  clear hA0 hval0
  refine (walk n0 u01 l01 u10 l10 W w0 x01 x10).mono fun e W' ⟨he, bel⟩ => ?_
  subst he
  exact ⟨_, rfl, _, _, _, [], _, [], hW', (trodAll_cons_mk (shut_bool Try.underlying4 _) trodAll_mk0), (trodAll_cons_mk (Below.trod laidOut (by kernel_rfl) (of_decide_eq_true (by kernel_rfl)) k0 bel (lt_of_trod k0)) (trodAll_cons_mk (Below.trod laidOut (by kernel_rfl) (of_decide_eq_true (by kernel_rfl)) k1 bel (lt_of_trod k1)) trodAll_mk0)), rfl, bel.frame _, fun h => by cases h⟩

theorem proved : Rows.FnExactHeightsOfSaid :=
  OpenClaim.holds_of_wide 14 Try.f14 rfl rfl rfl rfl rfl rfl rfl ⟨rfl, rfl, rfl, rfl, rfl⟩ rfl rfl rfl rfl rfl (by kernel_rfl) Try.func14 (by kernel_rfl)
    (of_decide_eq_true (by kernel_rfl)) (by unfold Func.isWrapper; first | (rw [if_pos (by decide +kernel)]; kernel_rfl) | (rw [if_neg (by decide +kernel)]; exact ⟨rfl, rfl⟩))
    (fun os started H enc _ => lifted os started H enc)
#print axioms proved
end Go.Proofs.Ytcpchdnhhjhpaaa.fnExactHeightsOf
