/- CutArcs answers as its model: for every n, lists and point within the bounds it is stated for. -/
import Derived.Test.YtpifgmmmmhenmaaRows
import Derived.Test.YtpifgmmmmhenmaaSh
import Derived.Test.YtpifgmmmmhenmaaBx
import Derived.Test.YtpifgmmmmhenmaaGl
import Derived.Test.YtpifgmmmmhenmaaBt
import Derived.Test.YtpifgmmmmhenmaaBx
import Derived.Test.YtpifgmmmmhenmaaCk
import Derived.Test.YtpifgmmmmhenmaaCp
import Derived.WalkKit
import Derived.Lib.LaidTab
import Derived.ProofKit
import Derived.LaidMore
import Derived.OpenShut
import Derived.ShutString
import Derived.ChangeOld
import Derived.Below
import Derived.Stop.Joined
import Derived.Stop.LaidErr
namespace Go.Proofs.Ytpifgmmmmhenmaa.fnExactCutArcs
open Go.ChangeShapes Go.WideShapes Go.ChangeAt Go.RowKit
open Go.ChangeMaps (open_string shut_string)
set_option linter.unusedVariables false

theorem own : ownKnob Try.prog.godebug = none := by kernel_rfl

theorem laidOut : laidOutB Try.prog = true := by kernel_rfl

set_option maxHeartbeats 4000000 in
set_option maxRecDepth 100000 in
theorem core (n0 : Int) (v01 : Value) (l01 : List Int) (v02 : Value) (l02 : List Int) (a1 : Int) (w : World) (w0 : (Lit.int .i64 n0).wf = true) (x01 : Ints w v01 l01) (x02 : Ints w v02 l02) (w1 : (Lit.int .i64 a1).wf = true) (l'0 : List Int) (l'1 : List Int) (r1 : Bool) (hl'0 : l'0.length ≤ 1048576) (hl'1 : l'1.length ≤ 1048576) (hbig : (l01.length : Int) + (l02.length : Int) ≤ 1048576)
    (hs : ∀ (W : World) (u01 : Value) (u02 : Value), Ints W u01 l01 → Ints W u02 l02 → (u01 = .slice none 0 0 ∨ ∃ ad cap, u01 = .slice (some ad) l01.length cap) → (u02 = .slice none 0 0 ∨ ∃ ad cap, u02 = .slice (some ad) l02.length cap) → Calls Try.prog 34 #[.agg #[.int .i64 n0, u01, u02], .int .i64 a1] W (fun e W' => ∃ vr0 vr1, e = .returned (.tuple #[.agg #[vr0, vr1], .bool r1]) ∧ OwnI W.heap.size W' vr0 l'0 ∧ OwnI W.heap.size W' vr1 l'1 ∧ (∀ k, vr0.ownBlock = some k → vr1.ownBlock ≠ some k) ∧ Below W.heap.size W W'))
    (hi : ∀ (W : World) (u01 : Value) (u02 : Value), Ints W u01 l01 → Ints W u02 l02 → (u01 = .slice none 0 0 ∨ ∃ ad cap, u01 = .slice (some ad) l01.length cap) → (u02 = .slice none 0 0 ∨ ∃ ad cap, u02 = .slice (some ad) l02.length cap) → Calls Try.prog 36 #[.agg #[.int .i64 n0, u01, u02], .int .i64 a1] W (fun e W' => ∃ vr0 vr1, e = .returned (.tuple #[.agg #[vr0, vr1], .bool r1]) ∧ OwnI W.heap.size W' vr0 l'0 ∧ OwnI W.heap.size W' vr1 l'1 ∧ (∀ k, vr0.ownBlock = some k → vr1.ownBlock ≠ some k) ∧ Below W.heap.size W W')) :
    Calls Try.prog 6 #[.agg #[.int .i64 n0, v01, v02], .int .i64 a1] w fun e w' => e = .returned (.bool true) ∧ Below w.heap.size w w' := by
  obtain ⟨a01, cap01, rfl, -, hm01⟩ := x01.form
  have HX01 := Lib.hid x01
  unfold maxLen at hm01
  clear hm01
  obtain ⟨a02, cap02, rfl, -, hm02⟩ := x02.form
  have HX02 := Lib.hid x02
  unfold maxLen at hm02
  clear hm02
  have HS := Lib.hid hs
  have HI := Lib.hid hi
  clear hs hi w0 x01 x02 
  have hne1 : (r1 != r1) = false := by simp
  have hp01 : (0 : Int) ≤ 1048576 - l01.length := by omega
  have hp02 : (0 : Int) ≤ 1048576 - l01.length - l02.length := by omega
  have hl901 : l01.length ≤ 100000000 := by omega
  have hl601 : l01.length ≤ 1048576 := by omega
  have hl902 : l02.length ≤ 100000000 := by omega
  have hl602 : l02.length ≤ 1048576 := by omega
  have hl9'0 : l'0.length ≤ 100000000 := by omega
  have hl9'1 : l'1.length ≤ 100000000 := by omega
  have BA0_0 := Lib.hid (show Box (w.heap.size) [.int .i64 n0, .slice a01 l01.length cap01, .slice a02 l02.length cap02] (w.alloc (.cells #[.int .i64 n0, .slice a01 l01.length cap01, .slice a02 l02.length cap02] 49)) from (Box.new w 49 [.int .i64 n0, .slice a01 l01.length cap01, .slice a02 l02.length cap02]))
  have F0 := Lib.hid (show Below w.heap.size w (w.alloc (.cells #[.int .i64 n0, .slice a01 l01.length cap01, .slice a02 l02.length cap02] 49)) from ((Below.refl _ w).alloc (Nat.le_refl _) (.cells #[.int .i64 n0, .slice a01 l01.length cap01, .slice a02 l02.length cap02] 49)))
  go_enter Try.func6, Try.ntmps6
  have cA00 : (w.alloc (.cells #[.int .i64 n0, .slice a01 l01.length cap01, .slice a02 l02.length cap02] 49)).cell? ⟨w.heap.size, 0, none⟩ = some (.int .i64 n0) := BA0_0.out.1 0 _ rfl
  have cA01 : (w.alloc (.cells #[.int .i64 n0, .slice a01 l01.length cap01, .slice a02 l02.length cap02] 49)).cell? ⟨w.heap.size, 1, none⟩ = some (.slice a01 l01.length cap01) := BA0_0.out.1 1 _ rfl
  have cA02 : (w.alloc (.cells #[.int .i64 n0, .slice a01 l01.length cap01, .slice a02 l02.length cap02] 49)).cell? ⟨w.heap.size, 2, none⟩ = some (.slice a02 l02.length cap02) := BA0_0.out.1 2 _ rfl
  have cA0z := BA0_0.out.2.2
  go_wp2_with fail
  refine (szArcs_fits n0 _ _ l01 l02 _ _ (HX01.out.on F0.out) (HX02.out.on F0.out) (by omega) (by omega)).mono ?_
  rintro e w1 ⟨rfl, hb⟩
  have BA0_1 := Lib.hid (BA0_0.out.on hb)
  have F1 := Lib.hid (F0.out.trans (hb.mono F0.out.size))
  have hz0 : w.heap.size + 1 ≤ w1.heap.size := BA0_1.out.2.2
  clear BA0_0 F0 hb cA00 cA01 cA02 cA0z
  have cA00 : w1.cell? ⟨w.heap.size, 0, none⟩ = some (.int .i64 n0) := BA0_1.out.1 0 _ rfl
  have cA01 : w1.cell? ⟨w.heap.size, 1, none⟩ = some (.slice a01 l01.length cap01) := BA0_1.out.1 1 _ rfl
  have cA02 : w1.cell? ⟨w.heap.size, 2, none⟩ = some (.slice a02 l02.length cap02) := BA0_1.out.1 2 _ rfl
  have cA0z := BA0_1.out.2.2
  go_wp2_with fail
  refine (toArcs_any n0 _ _ l01 l02 _ (HX01.out.on F1.out) (HX02.out.on F1.out) hl601 hl602).mono ?_
  rintro e w2 ⟨tw01, tw02, K02, rfl, ho01, ho02, le02, lt02, hb⟩
  have BA0_2 := Lib.hid (BA0_1.out.on hb)
  have F2 := Lib.hid (F1.out.trans (hb.mono F1.out.size))
  have hz1 : w1.heap.size ≤ w2.heap.size := hb.size
  replace ho02 := ho02.mono (le02)
  have OT01_2 := Lib.hid (show OwnR w1.heap.size w2.heap.size w2 (tw01) l01 from ⟨ho01, fun k hk => (ho01.lt k hk).2⟩)
  have OT02_2 := Lib.hid (show OwnR w1.heap.size w2.heap.size w2 (tw02) l02 from ⟨ho02, fun k hk => (ho02.lt k hk).2⟩)
  clear BA0_1 F1 hb ho01 ho02 le02 lt02 cA00 cA01 cA02 cA0z
  go_wp2_with fail
  refine (HS.out _ _ _ OT01_2.out.1.ints OT02_2.out.1.ints OT01_2.out.1.nilform OT02_2.out.1.nilform).mono ?_
  rintro e w3 ⟨vw0, vw1, rfl, ho0, ho1, djW01, hb⟩
  have BA0_3 := Lib.hid (BA0_2.out.on hb)
  have OT01_3 := Lib.hid (OT01_2.out.on hb)
  have OT02_3 := Lib.hid (OT02_2.out.on hb)
  have F3 := Lib.hid (F2.out.trans (hb.mono F2.out.size))
  have hz2 : w2.heap.size ≤ w3.heap.size := hb.size
  obtain ⟨aW0, capW0, hvW0⟩ : ∃ a c, vw0 = .slice a l'0.length c := by obtain ⟨a, c, h, -, -⟩ := ho0.ints.form; exact ⟨a, c, h⟩
  subst hvW0
  have OW0_3 := Lib.hid (show OwnR w2.heap.size w3.heap.size w3 (.slice aW0 l'0.length capW0) l'0 from ⟨ho0, fun k hk => (ho0.lt k hk).2⟩)
  obtain ⟨aW1, capW1, hvW1⟩ : ∃ a c, vw1 = .slice a l'1.length c := by obtain ⟨a, c, h, -, -⟩ := ho1.ints.form; exact ⟨a, c, h⟩
  subst hvW1
  have OW1_3 := Lib.hid (show OwnR w2.heap.size w3.heap.size w3 (.slice aW1 l'1.length capW1) l'1 from ⟨ho1, fun k hk => (ho1.lt k hk).2⟩)
  clear BA0_2 OT01_2 OT02_2 F2 hb ho0 ho1 djW01
  obtain ⟨w4, hw4⟩ : ∃ w4, w4 = w3.alloc (.cells #[.slice aW0 l'0.length capW0, .slice aW1 l'1.length capW1] 52) := ⟨_, rfl⟩
  have hb : Below w3.heap.size w3 w4 := by rw [hw4]; exact (Below.refl _ _).alloc (Nat.le_refl _) _
  have hzs3 : w3.heap.size < w4.heap.size := by rw [hw4]; simp
  have cA00 : w3.cell? ⟨w.heap.size, 0, none⟩ = some (.int .i64 n0) := BA0_3.out.1 0 _ rfl
  have cA01 : w3.cell? ⟨w.heap.size, 1, none⟩ = some (.slice a01 l01.length cap01) := BA0_3.out.1 1 _ rfl
  have cA02 : w3.cell? ⟨w.heap.size, 2, none⟩ = some (.slice a02 l02.length cap02) := BA0_3.out.1 2 _ rfl
  have cA0z := BA0_3.out.2.2
  have BA0_4 := Lib.hid (BA0_3.out.on hb)
  have OW0_4 := Lib.hid (OW0_3.out.on hb)
  have OW1_4 := Lib.hid (OW1_3.out.on hb)
  have F4 := Lib.hid (F3.out.trans (hb.mono F3.out.size))
  have hz3 : w3.heap.size ≤ w4.heap.size := hb.size
  have BW_4 := Lib.hid (show Box w3.heap.size [.slice aW0 l'0.length capW0, .slice aW1 l'1.length capW1] w4 by rw [hw4]; exact Box.new w3 _ _)
  go_wp2_with fail
  rw [← hw4]
  clear BA0_3 OW0_3 OW1_3 F3 hb hw4 cA00 cA01 cA02 cA0z
  refine (toArcs_any n0 _ _ l01 l02 _ (HX01.out.on F4.out) (HX02.out.on F4.out) hl601 hl602).mono ?_
  rintro e w5 ⟨vx01, vx02, K02, rfl, ho01, ho02, le02, lt02, hb⟩
  have BA0_5 := Lib.hid (BA0_4.out.on hb)
  have BW_5 := Lib.hid (BW_4.out.on hb)
  have OW0_5 := Lib.hid (OW0_4.out.on hb)
  have OW1_5 := Lib.hid (OW1_4.out.on hb)
  have F5 := Lib.hid (F4.out.trans (hb.mono F4.out.size))
  have hz4 : w4.heap.size ≤ w5.heap.size := hb.size
  have dj01_02 : ∀ k, Value.ownBlock vx01 = some k → Value.ownBlock vx02 ≠ some k := fun k hk hk' => by have h1 := lt02 k hk; have h2 := (ho02.lt k hk').1; omega
  replace ho02 := ho02.mono (le02)
  have OX01_5 := Lib.hid (show OwnR w4.heap.size w5.heap.size w5 (vx01) l01 from ⟨ho01, fun k hk => (ho01.lt k hk).2⟩)
  have OX02_5 := Lib.hid (show OwnR w4.heap.size w5.heap.size w5 (vx02) l02 from ⟨ho02, fun k hk => (ho02.lt k hk).2⟩)
  clear BA0_4 BW_4 OW0_4 OW1_4 F4 hb ho01 ho02 le02 lt02
  obtain ⟨ax01, capx01, hvx01⟩ : ∃ a c, vx01 = .slice a l01.length c := by obtain ⟨a, c, h, -, -⟩ := OX01_5.out.1.ints.form; exact ⟨a, c, h⟩
  subst hvx01
  obtain ⟨ax02, capx02, hvx02⟩ : ∃ a c, vx02 = .slice a l02.length c := by obtain ⟨a, c, h, -, -⟩ := OX02_5.out.1.ints.form; exact ⟨a, c, h⟩
  subst hvx02
  obtain ⟨w6, hw6⟩ : ∃ w6, w6 = w5.alloc (.cells #[.int .i64 n0, .slice ax01 l01.length capx01, .slice ax02 l02.length capx02] 55) := ⟨_, rfl⟩
  have hb : Below w5.heap.size w5 w6 := by rw [hw6]; exact (Below.refl _ _).alloc (Nat.le_refl _) _
  have hzs5 : w5.heap.size < w6.heap.size := by rw [hw6]; simp
  have BA0_6 := Lib.hid (BA0_5.out.on hb)
  have BW_6 := Lib.hid (BW_5.out.on hb)
  have OW0_6 := Lib.hid (OW0_5.out.on hb)
  have OW1_6 := Lib.hid (OW1_5.out.on hb)
  have OX01_6 := Lib.hid (OX01_5.out.on hb)
  have OX02_6 := Lib.hid (OX02_5.out.on hb)
  have F6 := Lib.hid (F5.out.trans (hb.mono F5.out.size))
  have hz5 : w5.heap.size ≤ w6.heap.size := hb.size
  have BX0_6 := Lib.hid (show Box w5.heap.size [.int .i64 n0, .slice ax01 l01.length capx01, .slice ax02 l02.length capx02] w6 by rw [hw6]; exact Box.new w5 _ _)
  go_wp2_with fail
  rw [← hw6]
  clear BA0_5 BW_5 OW0_5 OW1_5 OX01_5 OX02_5 F5 hb hw6
  refine (HI.out _ _ _ OX01_6.out.1.ints OX02_6.out.1.ints OX01_6.out.1.nilform OX02_6.out.1.nilform).mono ?_
  rintro e w7 ⟨vg0, vg1, rfl, ho0, ho1, djG01, hb⟩
  have BA0_7 := Lib.hid (BA0_6.out.on hb)
  have BW_7 := Lib.hid (BW_6.out.on hb)
  have BX0_7 := Lib.hid (BX0_6.out.on hb)
  have OW0_7 := Lib.hid (OW0_6.out.on hb)
  have OW1_7 := Lib.hid (OW1_6.out.on hb)
  have OX01_7 := Lib.hid (OX01_6.out.on hb)
  have OX02_7 := Lib.hid (OX02_6.out.on hb)
  have F7 := Lib.hid (F6.out.trans (hb.mono F6.out.size))
  have hz6 : w6.heap.size ≤ w7.heap.size := hb.size
  obtain ⟨aG0, capG0, hvG0⟩ : ∃ a c, vg0 = .slice a l'0.length c := by obtain ⟨a, c, h, -, -⟩ := ho0.ints.form; exact ⟨a, c, h⟩
  subst hvG0
  have OG0_7 := Lib.hid (show OwnR w6.heap.size w7.heap.size w7 (.slice aG0 l'0.length capG0) l'0 from ⟨ho0, fun k hk => (ho0.lt k hk).2⟩)
  obtain ⟨aG1, capG1, hvG1⟩ : ∃ a c, vg1 = .slice a l'1.length c := by obtain ⟨a, c, h, -, -⟩ := ho1.ints.form; exact ⟨a, c, h⟩
  subst hvG1
  have OG1_7 := Lib.hid (show OwnR w6.heap.size w7.heap.size w7 (.slice aG1 l'1.length capG1) l'1 from ⟨ho1, fun k hk => (ho1.lt k hk).2⟩)
  clear BA0_6 BW_6 BX0_6 OW0_6 OW1_6 OX01_6 OX02_6 F6 hb ho0 ho1
  obtain ⟨w8, hw8⟩ : ∃ w8, w8 = w7.alloc (.cells #[.slice aG0 l'0.length capG0, .slice aG1 l'1.length capG1] 52) := ⟨_, rfl⟩
  have hb : Below w7.heap.size w7 w8 := by rw [hw8]; exact (Below.refl _ _).alloc (Nat.le_refl _) _
  have hzs7 : w7.heap.size < w8.heap.size := by rw [hw8]; simp
  have cW0 : w7.cell? ⟨w3.heap.size, 0, none⟩ = some (.slice aW0 l'0.length capW0) := BW_7.out.1 0 _ rfl
  have cW1 : w7.cell? ⟨w3.heap.size, 1, none⟩ = some (.slice aW1 l'1.length capW1) := BW_7.out.1 1 _ rfl
  have cWz := BW_7.out.2.2
  have BA0_8 := Lib.hid (BA0_7.out.on hb)
  have BW_8 := Lib.hid (BW_7.out.on hb)
  have BX0_8 := Lib.hid (BX0_7.out.on hb)
  have OW0_8 := Lib.hid (OW0_7.out.on hb)
  have OW1_8 := Lib.hid (OW1_7.out.on hb)
  have OX01_8 := Lib.hid (OX01_7.out.on hb)
  have OX02_8 := Lib.hid (OX02_7.out.on hb)
  have OG0_8 := Lib.hid (OG0_7.out.on hb)
  have OG1_8 := Lib.hid (OG1_7.out.on hb)
  have F8 := Lib.hid (F7.out.trans (hb.mono F7.out.size))
  have hz7 : w7.heap.size ≤ w8.heap.size := hb.size
  have BG_8 := Lib.hid (show Box w7.heap.size [.slice aG0 l'0.length capG0, .slice aG1 l'1.length capG1] w8 by rw [hw8]; exact Box.new w7 _ _)
  go_wp2_with fail
  rw [← hw8]
  clear BA0_7 BW_7 BX0_7 OW0_7 OW1_7 OX01_7 OX02_7 OG0_7 OG1_7 F7 hb hw8 cW0 cW1 cWz
  refine (eqIntervals_same _ _ _ _ l'0 l'1 _ OG0_8.out.1.ints OG1_8.out.1.ints OW0_8.out.1.ints OW1_8.out.1.ints hl9'0 hl9'1).mono ?_
  rintro e w9 ⟨rfl, hb⟩
  have BA0_9 := Lib.hid (BA0_8.out.on hb)
  have BW_9 := Lib.hid (BW_8.out.on hb)
  have BX0_9 := Lib.hid (BX0_8.out.on hb)
  have BG_9 := Lib.hid (BG_8.out.on hb)
  have OW0_9 := Lib.hid (OW0_8.out.on hb)
  have OW1_9 := Lib.hid (OW1_8.out.on hb)
  have OX01_9 := Lib.hid (OX01_8.out.on hb)
  have OX02_9 := Lib.hid (OX02_8.out.on hb)
  have OG0_9 := Lib.hid (OG0_8.out.on hb)
  have OG1_9 := Lib.hid (OG1_8.out.on hb)
  have F9 := Lib.hid (F8.out.trans (hb.mono F8.out.size))
  have hz8 : w8.heap.size ≤ w9.heap.size := hb.size
  clear BA0_8 BW_8 BX0_8 BG_8 OW0_8 OW1_8 OX01_8 OX02_8 OG0_8 OG1_8 F8 hb
  have HR : Hid (∀ W, Below w9.heap.size w9 W → W.cell? ⟨w.heap.size, 0, none⟩ = some (.int .i64 n0) ∧ W.cell? ⟨w.heap.size, 1, none⟩ = some (.slice a01 l01.length cap01) ∧ W.cell? ⟨w.heap.size, 2, none⟩ = some (.slice a02 l02.length cap02) ∧ W.cell? ⟨w5.heap.size, 0, none⟩ = some (.int .i64 n0) ∧ W.cell? ⟨w5.heap.size, 1, none⟩ = some (.slice ax01 l01.length capx01) ∧ W.cell? ⟨w5.heap.size, 2, none⟩ = some (.slice ax02 l02.length capx02) ∧ Ints W (.slice a01 l01.length cap01) l01 ∧ Ints W (.slice a02 l02.length cap02) l02 ∧ Ints W (.slice ax01 l01.length capx01) l01 ∧ Ints W (.slice ax02 l02.length capx02) l02 ∧ Below w9.heap.size w9 W) := fun W hb => ⟨(BA0_9.out.on hb).1 0 _ rfl, (BA0_9.out.on hb).1 1 _ rfl, (BA0_9.out.on hb).1 2 _ rfl, (BX0_9.out.on hb).1 0 _ rfl, (BX0_9.out.on hb).1 1 _ rfl, (BX0_9.out.on hb).1 2 _ rfl, HX01.out.on (F9.out.trans (hb.mono F9.out.size)), HX02.out.on (F9.out.trans (hb.mono F9.out.size)), (OX01_9.out.on hb).1.ints, (OX02_9.out.on hb).1.ints, hb⟩
  go_wp2
  go_region_held3 (fun w' => w'.cell? ⟨w.heap.size, 0, none⟩ = some (.int .i64 n0) ∧ w'.cell? ⟨w.heap.size, 1, none⟩ = some (.slice a01 l01.length cap01) ∧ w'.cell? ⟨w.heap.size, 2, none⟩ = some (.slice a02 l02.length cap02) ∧ w'.cell? ⟨w5.heap.size, 0, none⟩ = some (.int .i64 n0) ∧ w'.cell? ⟨w5.heap.size, 1, none⟩ = some (.slice ax01 l01.length capx01) ∧ w'.cell? ⟨w5.heap.size, 2, none⟩ = some (.slice ax02 l02.length capx02) ∧ Ints w' (.slice a01 l01.length cap01) l01 ∧ Ints w' (.slice a02 l02.length cap02) l02 ∧ Ints w' (.slice ax01 l01.length capx01) l01 ∧ Ints w' (.slice ax02 l02.length capx02) l02 ∧ Below w9.heap.size w9 w')
    (first | exact HR.out _ (Below.refl _ _).drew | exact HR.out _ (Below.refl _ _) | (go_split_ands; exact HR.out _ (btrans (by assumption) hb)))
    (first
      | (go_at_call 35; go_split_ands; refine (toArcs_any n0 _ _ l01 l02 _ (by assumption) (by assumption) hl601 hl602).mono ?_; rintro e wa ⟨vy01, vy02, K02, rfl, ho01, ho02, le02, lt02, hb⟩)
      | (go_at_call 38; go_split_ands; refine (eqArcs_same n0 _ _ _ _ l01 l02 _ (by assumption) (by assumption) ho01.ints ho02.ints hl901 hl902).mono ?_; rintro e w10 ⟨rfl, hb⟩))
  go_split_ands
  have hbE : Below w9.heap.size w9 w10 := by assumption
  have BA0_10 := Lib.hid (BA0_9.out.on hbE)
  have BW_10 := Lib.hid (BW_9.out.on hbE)
  have BX0_10 := Lib.hid (BX0_9.out.on hbE)
  have BG_10 := Lib.hid (BG_9.out.on hbE)
  have OW0_10 := Lib.hid (OW0_9.out.on hbE)
  have OW1_10 := Lib.hid (OW1_9.out.on hbE)
  have OX01_10 := Lib.hid (OX01_9.out.on hbE)
  have OX02_10 := Lib.hid (OX02_9.out.on hbE)
  have OG0_10 := Lib.hid (OG0_9.out.on hbE)
  have OG1_10 := Lib.hid (OG1_9.out.on hbE)
  have F10 := Lib.hid (F9.out.trans (hbE.mono F9.out.size))
  have hz9 : w9.heap.size ≤ w10.heap.size := hbE.size
  clear BA0_9 BW_9 BX0_9 BG_9 OW0_9 OW1_9 OX01_9 OX02_9 OG0_9 OG1_9 F9 HR hbE hb ho01 ho02 le02 lt02
  have cX00 : w10.cell? ⟨w5.heap.size, 0, none⟩ = some (.int .i64 n0) := BX0_10.out.1 0 _ rfl
  have cX01 : w10.cell? ⟨w5.heap.size, 1, none⟩ = some (.slice ax01 l01.length capx01) := BX0_10.out.1 1 _ rfl
  have cX02 : w10.cell? ⟨w5.heap.size, 2, none⟩ = some (.slice ax02 l02.length capx02) := BX0_10.out.1 2 _ rfl
  have cX0z := BX0_10.out.2.2
  go_wp2_with fail
  refine (markArcs_any _ _ n0 _ _ l01 l02 (1 : Int) _ OX01_10.out OX02_10.out dj01_02 hl901 hl902 (by omega) (by omega) (by omega)).mono ?_
  rintro e w11 ⟨rfl, hO, -⟩
  have BA0_11 := Lib.hid (BA0_10.out.keepO hO (by omega))
  have BW_11 := Lib.hid (BW_10.out.keepO hO (by omega))
  have BG_11 := Lib.hid (BG_10.out.keepO hO (by omega))
  have OW0_11 := Lib.hid (OW0_10.out.keepO hO (by omega))
  have OW1_11 := Lib.hid (OW1_10.out.keepO hO (by omega))
  have OG0_11 := Lib.hid (OG0_10.out.keepO hO (by omega))
  have OG1_11 := Lib.hid (OG1_10.out.keepO hO (by omega))
  have F11 := Lib.hid (Below.only F10.out hO (by omega) (Nat.le_refl _))
  have hz10 : w10.heap.size ≤ w11.heap.size := hO.size
  clear BA0_10 BW_10 BX0_10 BG_10 OW0_10 OW1_10 OX01_10 OX02_10 OG0_10 OG1_10 F10 hO cX00 cX01 cX02 cX0z
  have hk : decide ((((1 : Int) + l01.length) + l02.length) < 0) = false := by simp; omega
  have cG0 : w11.cell? ⟨w7.heap.size, 0, none⟩ = some (.slice aG0 l'0.length capG0) := BG_11.out.1 0 _ rfl
  have cG1 : w11.cell? ⟨w7.heap.size, 1, none⟩ = some (.slice aG1 l'1.length capG1) := BG_11.out.1 1 _ rfl
  have cGz := BG_11.out.2.2
  have cW0 : w11.cell? ⟨w3.heap.size, 0, none⟩ = some (.slice aW0 l'0.length capW0) := BW_11.out.1 0 _ rfl
  have cW1 : w11.cell? ⟨w3.heap.size, 1, none⟩ = some (.slice aW1 l'1.length capW1) := BW_11.out.1 1 _ rfl
  have cWz := BW_11.out.2.2
  go_wp2_with fail
  refine (eqIntervals_same _ _ _ _ l'0 l'1 _ OG0_11.out.1.ints OG1_11.out.1.ints OW0_11.out.1.ints OW1_11.out.1.ints hl9'0 hl9'1).mono ?_
  rintro e w12 ⟨rfl, hb⟩
  have BA0_12 := Lib.hid (BA0_11.out.on hb)
  have BW_12 := Lib.hid (BW_11.out.on hb)
  have BG_12 := Lib.hid (BG_11.out.on hb)
  have OW0_12 := Lib.hid (OW0_11.out.on hb)
  have OW1_12 := Lib.hid (OW1_11.out.on hb)
  have OG0_12 := Lib.hid (OG0_11.out.on hb)
  have OG1_12 := Lib.hid (OG1_11.out.on hb)
  have F12 := Lib.hid (F11.out.trans (hb.mono F11.out.size))
  have hz11 : w11.heap.size ≤ w12.heap.size := hb.size
  clear BA0_11 BW_11 BG_11 OW0_11 OW1_11 OG0_11 OG1_11 F11 hb cG0 cG1 cGz cW0 cW1 cWz
  have cG0 : w12.cell? ⟨w7.heap.size, 0, none⟩ = some (.slice aG0 l'0.length capG0) := BG_12.out.1 0 _ rfl
  have cG1 : w12.cell? ⟨w7.heap.size, 1, none⟩ = some (.slice aG1 l'1.length capG1) := BG_12.out.1 1 _ rfl
  have cGz := BG_12.out.2.2
  go_wp2_with fail
  refine (markIntervals_any _ _ _ _ l'0 l'1 1 _ OG0_12.out OG1_12.out djG01 hl9'0 hl9'1 (by omega) (by omega) (by omega)).mono ?_
  rintro e w13 ⟨rfl, hO, ho0, ho1⟩
  have BA0_13 := Lib.hid (BA0_12.out.keepO hO (by omega))
  have BW_13 := Lib.hid (BW_12.out.keepO hO (by omega))
  have BG_13 := Lib.hid (BG_12.out.keepO hO (by omega))
  have OW0_13 := Lib.hid (OW0_12.out.keepO hO (by omega))
  have OW1_13 := Lib.hid (OW1_12.out.keepO hO (by omega))
  have F13 := Lib.hid (Below.only F12.out hO (by omega) (Nat.le_refl _))
  have hz12 : w12.heap.size ≤ w13.heap.size := hO.size
  have OG0_13 := Lib.hid ho0
  have OG1_13 := Lib.hid ho1
  clear BA0_12 BW_12 BG_12 OW0_12 OW1_12 OG0_12 OG1_12 F12 hO ho0 ho1 cG0 cG1 cGz
  have cG0 : w13.cell? ⟨w7.heap.size, 0, none⟩ = some (.slice aG0 l'0.length capG0) := BG_13.out.1 0 _ rfl
  have cG1 : w13.cell? ⟨w7.heap.size, 1, none⟩ = some (.slice aG1 l'1.length capG1) := BG_13.out.1 1 _ rfl
  have cGz := BG_13.out.2.2
  go_wp2_with fail
  refine (heldIntervals_any _ _ l'0.length l'1.length 1 _ OG0_13.out.1.ints OG1_13.out.1.ints hl9'0 hl9'1 (by omega) (by omega)).mono ?_
  rintro e w14 ⟨rfl, hb⟩
  have BA0_14 := Lib.hid (BA0_13.out.on hb)
  have BW_14 := Lib.hid (BW_13.out.on hb)
  have BG_14 := Lib.hid (BG_13.out.on hb)
  have OW0_14 := Lib.hid (OW0_13.out.on hb)
  have OW1_14 := Lib.hid (OW1_13.out.on hb)
  have OG0_14 := Lib.hid (OG0_13.out.on hb)
  have OG1_14 := Lib.hid (OG1_13.out.on hb)
  have F14 := Lib.hid (F13.out.trans (hb.mono F13.out.size))
  have hz13 : w13.heap.size ≤ w14.heap.size := hb.size
  clear BA0_13 BW_13 BG_13 OW0_13 OW1_13 OG0_13 OG1_13 F13 hb cG0 cG1 cGz
  have hk' : decide ((1 : Int) + l'0.length + l'1.length < 0) = false := by simp; omega
  have hq : ((1 : Int) + l'0.length + l'1.length != 1 + l'0.length + l'1.length) = false := by simp
  have cA00 : w14.cell? ⟨w.heap.size, 0, none⟩ = some (.int .i64 n0) := BA0_14.out.1 0 _ rfl
  have cA01 : w14.cell? ⟨w.heap.size, 1, none⟩ = some (.slice a01 l01.length cap01) := BA0_14.out.1 1 _ rfl
  have cA02 : w14.cell? ⟨w.heap.size, 2, none⟩ = some (.slice a02 l02.length cap02) := BA0_14.out.1 2 _ rfl
  have cA0z := BA0_14.out.2.2
  go_wp2_with fail
  refine (toArcs_any n0 _ _ l01 l02 _ (HX01.out.on F14.out) (HX02.out.on F14.out) hl601 hl602).mono ?_
  rintro e w15 ⟨th01, th02, K02, rfl, ho01, ho02, le02, lt02, hb⟩
  have BA0_15 := Lib.hid (BA0_14.out.on hb)
  have BW_15 := Lib.hid (BW_14.out.on hb)
  have BG_15 := Lib.hid (BG_14.out.on hb)
  have OW0_15 := Lib.hid (OW0_14.out.on hb)
  have OW1_15 := Lib.hid (OW1_14.out.on hb)
  have OG0_15 := Lib.hid (OG0_14.out.on hb)
  have OG1_15 := Lib.hid (OG1_14.out.on hb)
  have F15 := Lib.hid (F14.out.trans (hb.mono F14.out.size))
  have hz14 : w14.heap.size ≤ w15.heap.size := hb.size
  replace ho02 := ho02.mono (le02)
  have OT01_15 := Lib.hid (show OwnR w14.heap.size w15.heap.size w15 (th01) l01 from ⟨ho01, fun k hk => (ho01.lt k hk).2⟩)
  have OT02_15 := Lib.hid (show OwnR w14.heap.size w15.heap.size w15 (th02) l02 from ⟨ho02, fun k hk => (ho02.lt k hk).2⟩)
  clear BA0_14 BW_14 BG_14 OW0_14 OW1_14 OG0_14 OG1_14 F14 hb ho01 ho02 le02 lt02 cA00 cA01 cA02 cA0z
  go_wp2_with fail
  refine (HI.out _ _ _ OT01_15.out.1.ints OT02_15.out.1.ints OT01_15.out.1.nilform OT02_15.out.1.nilform).mono ?_
  rintro e w16 ⟨vh0, vh1, rfl, ho0, ho1, djH01, hb⟩
  have BA0_16 := Lib.hid (BA0_15.out.on hb)
  have BW_16 := Lib.hid (BW_15.out.on hb)
  have BG_16 := Lib.hid (BG_15.out.on hb)
  have OW0_16 := Lib.hid (OW0_15.out.on hb)
  have OW1_16 := Lib.hid (OW1_15.out.on hb)
  have OG0_16 := Lib.hid (OG0_15.out.on hb)
  have OG1_16 := Lib.hid (OG1_15.out.on hb)
  have OT01_16 := Lib.hid (OT01_15.out.on hb)
  have OT02_16 := Lib.hid (OT02_15.out.on hb)
  have F16 := Lib.hid (F15.out.trans (hb.mono F15.out.size))
  have hz15 : w15.heap.size ≤ w16.heap.size := hb.size
  obtain ⟨aH0, capH0, hvH0⟩ : ∃ a c, vh0 = .slice a l'0.length c := by obtain ⟨a, c, h, -, -⟩ := ho0.ints.form; exact ⟨a, c, h⟩
  subst hvH0
  have OH0_16 := Lib.hid (show OwnR w15.heap.size w16.heap.size w16 (.slice aH0 l'0.length capH0) l'0 from ⟨ho0, fun k hk => (ho0.lt k hk).2⟩)
  obtain ⟨aH1, capH1, hvH1⟩ : ∃ a c, vh1 = .slice a l'1.length c := by obtain ⟨a, c, h, -, -⟩ := ho1.ints.form; exact ⟨a, c, h⟩
  subst hvH1
  have OH1_16 := Lib.hid (show OwnR w15.heap.size w16.heap.size w16 (.slice aH1 l'1.length capH1) l'1 from ⟨ho1, fun k hk => (ho1.lt k hk).2⟩)
  clear BA0_15 BW_15 BG_15 OW0_15 OW1_15 OG0_15 OG1_15 OT01_15 OT02_15 F15 hb ho0 ho1 djH01
  obtain ⟨w17, hw17⟩ : ∃ w17, w17 = w16.alloc (.cells #[.slice aH0 l'0.length capH0, .slice aH1 l'1.length capH1] 52) := ⟨_, rfl⟩
  have hb : Below w16.heap.size w16 w17 := by rw [hw17]; exact (Below.refl _ _).alloc (Nat.le_refl _) _
  have hzs16 : w16.heap.size < w17.heap.size := by rw [hw17]; simp
  have cW0 : w16.cell? ⟨w3.heap.size, 0, none⟩ = some (.slice aW0 l'0.length capW0) := BW_16.out.1 0 _ rfl
  have cW1 : w16.cell? ⟨w3.heap.size, 1, none⟩ = some (.slice aW1 l'1.length capW1) := BW_16.out.1 1 _ rfl
  have cWz := BW_16.out.2.2
  have BA0_17 := Lib.hid (BA0_16.out.on hb)
  have BW_17 := Lib.hid (BW_16.out.on hb)
  have BG_17 := Lib.hid (BG_16.out.on hb)
  have OW0_17 := Lib.hid (OW0_16.out.on hb)
  have OW1_17 := Lib.hid (OW1_16.out.on hb)
  have OG0_17 := Lib.hid (OG0_16.out.on hb)
  have OG1_17 := Lib.hid (OG1_16.out.on hb)
  have OH0_17 := Lib.hid (OH0_16.out.on hb)
  have OH1_17 := Lib.hid (OH1_16.out.on hb)
  have F17 := Lib.hid (F16.out.trans (hb.mono F16.out.size))
  have hz16 : w16.heap.size ≤ w17.heap.size := hb.size
  have BH_17 := Lib.hid (show Box w16.heap.size [.slice aH0 l'0.length capH0, .slice aH1 l'1.length capH1] w17 by rw [hw17]; exact Box.new w16 _ _)
  go_wp2_with fail
  rw [← hw17]
  clear BA0_16 BW_16 BG_16 OW0_16 OW1_16 OG0_16 OG1_16 OH0_16 OH1_16 F16 hb hw17 cW0 cW1 cWz
  refine (eqIntervals_same _ _ _ _ l'0 l'1 _ OH0_17.out.1.ints OH1_17.out.1.ints OW0_17.out.1.ints OW1_17.out.1.ints hl9'0 hl9'1).mono ?_
  rintro e w18 ⟨rfl, hb⟩
  have BA0_18 := Lib.hid (BA0_17.out.on hb)
  have BW_18 := Lib.hid (BW_17.out.on hb)
  have BG_18 := Lib.hid (BG_17.out.on hb)
  have BH_18 := Lib.hid (BH_17.out.on hb)
  have OW0_18 := Lib.hid (OW0_17.out.on hb)
  have OW1_18 := Lib.hid (OW1_17.out.on hb)
  have OG0_18 := Lib.hid (OG0_17.out.on hb)
  have OG1_18 := Lib.hid (OG1_17.out.on hb)
  have OH0_18 := Lib.hid (OH0_17.out.on hb)
  have OH1_18 := Lib.hid (OH1_17.out.on hb)
  have F18 := Lib.hid (F17.out.trans (hb.mono F17.out.size))
  have hz17 : w17.heap.size ≤ w18.heap.size := hb.size
  clear BA0_17 BW_17 BG_17 BH_17 OW0_17 OW1_17 OG0_17 OG1_17 OH0_17 OH1_17 F17 hb
  have cG0 : w18.cell? ⟨w7.heap.size, 0, none⟩ = some (.slice aG0 l'0.length capG0) := BG_18.out.1 0 _ rfl
  have cG1 : w18.cell? ⟨w7.heap.size, 1, none⟩ = some (.slice aG1 l'1.length capG1) := BG_18.out.1 1 _ rfl
  have cGz := BG_18.out.2.2
  go_wp2_with fail
  refine (heldIntervals_any _ _ l'0.length l'1.length 1 _ OG0_18.out.1.ints OG1_18.out.1.ints hl9'0 hl9'1 (by omega) (by omega)).mono ?_
  rintro e w19 ⟨rfl, hb⟩
  have BA0_19 := Lib.hid (BA0_18.out.on hb)
  have BW_19 := Lib.hid (BW_18.out.on hb)
  have BG_19 := Lib.hid (BG_18.out.on hb)
  have OW0_19 := Lib.hid (OW0_18.out.on hb)
  have OW1_19 := Lib.hid (OW1_18.out.on hb)
  have OG0_19 := Lib.hid (OG0_18.out.on hb)
  have OG1_19 := Lib.hid (OG1_18.out.on hb)
  have F19 := Lib.hid (F18.out.trans (hb.mono F18.out.size))
  have hz18 : w18.heap.size ≤ w19.heap.size := hb.size
  clear BA0_18 BW_18 BG_18 OW0_18 OW1_18 OG0_18 OG1_18 F18 hb cG0 cG1 cGz
  go_wp2
  go_ret
  exact ⟨rfl, F19.out⟩

set_option maxHeartbeats 1000000 in
set_option maxRecDepth 100000 in
theorem walk (n0 : Int) (v01 : Value) (l01 : List Int) (v02 : Value) (l02 : List Int) (a1 : Int) (w : World) (w0 : (Lit.int .i64 n0).wf = true) (x01 : Ints w v01 l01) (x02 : Ints w v02 l02) (w1 : (Lit.int .i64 a1).wf = true) : Calls Try.prog 6 #[.agg #[.int .i64 n0, v01, v02], .int .i64 a1] w fun e w' => e = .returned (.bool true) ∧ Below w.heap.size w w' := by
  by_cases hb0 : 1048576 < (l01.length : Int) + (l02.length : Int)
  · skip
    obtain ⟨a01, cap01, rfl, -, hm01⟩ := x01.form
    have HX01 := Lib.hid x01
    obtain ⟨a02, cap02, rfl, -, hm02⟩ := x02.form
    have HX02 := Lib.hid x02
    clear w0 x01 x02 
    have BA0_0 := Lib.hid (show Box (w.heap.size) [.int .i64 n0, .slice a01 l01.length cap01, .slice a02 l02.length cap02] (w.alloc (.cells #[.int .i64 n0, .slice a01 l01.length cap01, .slice a02 l02.length cap02] 49)) from (Box.new w 49 [.int .i64 n0, .slice a01 l01.length cap01, .slice a02 l02.length cap02]))
    have F0 := Lib.hid (show Below w.heap.size w (w.alloc (.cells #[.int .i64 n0, .slice a01 l01.length cap01, .slice a02 l02.length cap02] 49)) from ((Below.refl _ w).alloc (Nat.le_refl _) (.cells #[.int .i64 n0, .slice a01 l01.length cap01, .slice a02 l02.length cap02] 49)))
    go_enter Try.func6, Try.ntmps6
    have cc00 : (w.alloc (.cells #[.int .i64 n0, .slice a01 l01.length cap01, .slice a02 l02.length cap02] 49)).cell? ⟨w.heap.size, 0, none⟩ = some (.int .i64 n0) := BA0_0.out.1 0 _ rfl
    have cc01 : (w.alloc (.cells #[.int .i64 n0, .slice a01 l01.length cap01, .slice a02 l02.length cap02] 49)).cell? ⟨w.heap.size, 1, none⟩ = some (.slice a01 l01.length cap01) := BA0_0.out.1 1 _ rfl
    have cc02 : (w.alloc (.cells #[.int .i64 n0, .slice a01 l01.length cap01, .slice a02 l02.length cap02] 49)).cell? ⟨w.heap.size, 2, none⟩ = some (.slice a02 l02.length cap02) := BA0_0.out.1 2 _ rfl
    go_wp2_with fail
    refine (szArcs_over n0 _ _ l01 l02 _ _ (HX01.out.on F0.out) (HX02.out.on F0.out) (by omega) (by omega) (by omega)).mono ?_
    rintro e w1 ⟨rfl, hb⟩
    have BA0_1 := Lib.hid (BA0_0.out.on hb)
    have F1 := Lib.hid (F0.out.trans (hb.mono F0.out.size))
    clear hb BA0_0 F0 cc00 cc01 cc02
    go_wp2
    go_ret
    exact ⟨rfl, F1.out⟩
  exact core n0 v01 l01 v02 l02 a1 w w0 x01 x02 w1 (cutA n0 l01 l02 a1) (cutB n0 l01 l02 a1) (decide (CutP n0 l01 l02 a1)) (Nat.le_trans (cutA_len _ _ _ _) (by omega)) (Nat.le_trans (cutB_len _ _ _ _) (by omega)) (by omega)
    (fun W u01 u02 h01 h02 _ _ => specCut n0 u01 u02 l01 l02 a1 W h01 h02 (by omega) (by omega))
    (fun W u01 u02 h01 h02 _ _ => implCut n0 u01 u02 l01 l02 a1 W h01 h02 (by omega) (by omega))

set_option maxRecDepth 100000 in
theorem lifted (os : Os) (started : os.Started) (H : Type) (enc : TypeId × Value → H) :
    ReturnsInHanded {} Try.checked os 6 .any (Rows.fnExactCutArcsSpec.pre6 enc Try.prog Try.f6 Rows.fnExactCutArcsRow.domain false) (Rows.fnExactCutArcsSpec.post enc Try.prog Try.f6 false true false false) := by
  refine returnsInHanded_of_change (C := Try.checked) own started (by kernel_rfl) Try.func6
    (ChangeSpec.witness6 (enc := enc) (C := Try.checked) false ⟨#[], #[.agg #[.int .i64 0, .slice none 0 0, .slice none 0 0], .int .i64 0], []⟩ 8 (by kernel_rfl) (by kernel_rfl) (by kernel_rfl) (by kernel_rfl)) ?_
  intro W base args ds gs before hval0 hW hcnd _
  have hval : ∀ (j : Nat) t v, Try.f6.params[j]? = some t → args[j]? = some v → Value.okWide Try.prog W .any base t v := hval0
  have hW' := hW
  obtain ⟨p, q, hA0, hV, rfl, hfz, hnd⟩ := hW
  have hA : DataW.TrodAll enc Try.prog W 0 (fun _ => true) true Try.f6.params.toList args.toList ds p := hA0
  rw [Try.params6] at hA hval
  obtain ⟨v0, vs0, d0, ds0, p0, q0, hargs, rfl, rfl, h0, r0⟩ := trodAll_cons hA
  obtain ⟨v1, vs1, d1, ds1, p1, q1, rfl, rfl, rfl, h1, r1⟩ := trodAll_cons r0
  obtain ⟨rfl, rfl, rfl⟩ := trodAll_nil r1
  obtain rfl : args = #[v0, v1] := by cases args; simp_all
  obtain ⟨rfl, rfl⟩ := trodVars_none hV
  have k0 := h0
  obtain ⟨n0, u01, l01, u02, l02, rfl, w0, x01, x02⟩ := open_iss Try.underlying49 (by kernel_rfl) (by kernel_rfl) Try.underlying3 Try.underlying27 Try.underlying27 Try.underlying3 (by kernel_rfl) (hval 0 49 v0 rfl rfl) h0
  obtain ⟨a1, rfl, rfl, rfl, w1⟩ := open_int Try.underlying3 (hval 1 3 v1 rfl rfl) h1
  clear hA0 hval0
  refine (walk n0 u01 l01 u02 l02 a1 W w0 x01 x02 w1).mono fun e W' ⟨he, bel⟩ => ?_
  subst he
  exact ⟨_, rfl, _, _, _, [], _, [], hW', (trodAll_cons_mk (shut_bool Try.underlying4 _) trodAll_mk0), (trodAll_cons_mk (Below.trod laidOut (by kernel_rfl) (of_decide_eq_true (by kernel_rfl)) k0 bel (lt_of_trod k0)) (trodAll_cons_mk (shut_int Try.underlying3 w1) trodAll_mk0)), rfl, bel.frame _, fun h => by cases h⟩

theorem proved : Rows.FnExactCutArcsSaid :=
  OpenClaim.holds_of_wide 6 Try.f6 rfl rfl rfl rfl rfl rfl rfl ⟨rfl, rfl, rfl, rfl, rfl⟩ rfl rfl rfl rfl rfl (by kernel_rfl) Try.func6 (by kernel_rfl)
    (of_decide_eq_true (by kernel_rfl)) (by unfold Func.isWrapper; first | (rw [if_pos (by decide +kernel)]; kernel_rfl) | (rw [if_neg (by decide +kernel)]; exact ⟨rfl, rfl⟩))
    (fun os started H enc _ => lifted os started H enc)
#print axioms proved
end Go.Proofs.Ytpifgmmmmhenmaa.fnExactCutArcs
