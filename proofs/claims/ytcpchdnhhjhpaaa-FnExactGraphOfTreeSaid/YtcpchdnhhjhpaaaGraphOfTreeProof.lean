/- At every argument GraphOfTree answers as its specification, writes into no argument, and its answer owns its memory. -/
import Derived.Test.YtcpchdnhhjhpaaaRows
import Derived.Test.YtcpchdnhhjhpaaaSh
import Derived.Test.YtcpchdnhhjhpaaaBx
import Derived.Test.YtcpchdnhhjhpaaaGl
import Derived.Test.YtcpchdnhhjhpaaaBt
import Derived.Test.YtcpchdnhhjhpaaaBx
import Derived.Test.YtcpchdnhhjhpaaaX5
import Derived.WalkKit
import Derived.Lib.LaidTab
import Derived.ProofKit
import Derived.LaidMore
import Derived.OpenShut
import Derived.ShutString
import Derived.ChangeOld
import Derived.Below
import Derived.Stop.Joined
import Derived.Stop.LaidErr
namespace Go.Proofs.Ytcpchdnhhjhpaaa.fnExactGraphOfTree
open Go.ChangeShapes Go.WideShapes Go.ChangeAt Go.RowKit
open Go.ChangeMaps (open_string shut_string)
set_option linter.unusedVariables false

theorem own : ownKnob Try.prog.godebug = none := by kernel_rfl

theorem laidOut : laidOutB Try.prog = true := by kernel_rfl

set_option maxHeartbeats 4000000 in
set_option maxRecDepth 100000 in
theorem core (v00 : Value) (l00 : List Int) (v01 : Value) (l01 : List Int) (a1 : Int) (w : World) (x00 : Ints w v00 l00) (x01 : Ints w v01 l01) (w1 : (Lit.int .i64 a1).wf = true) (n' : Int) (l'1 : List Int) (r1 : Bool) (hl'1 : l'1.length ≤ 1048576) (hbig : (l00.length : Int) + (l01.length : Int) ≤ 1048576)
    (hs : ∀ (W : World) (u00 : Value) (u01 : Value), Ints W u00 l00 → Ints W u01 l01 → (u00 = .slice none 0 0 ∨ ∃ ad cap, u00 = .slice (some ad) l00.length cap) → (u01 = .slice none 0 0 ∨ ∃ ad cap, u01 = .slice (some ad) l01.length cap) → Calls Try.prog 44 #[.agg #[u00, u01], .int .i64 a1] W (fun e W' => ∃ vr1, e = .returned (.tuple #[.agg #[(.int .i64 n'), vr1], .bool r1]) ∧ OwnI W.heap.size W' vr1 l'1 ∧ Below W.heap.size W W'))
    (hi : ∀ (W : World) (u00 : Value) (u01 : Value), Ints W u00 l00 → Ints W u01 l01 → (u00 = .slice none 0 0 ∨ ∃ ad cap, u00 = .slice (some ad) l00.length cap) → (u01 = .slice none 0 0 ∨ ∃ ad cap, u01 = .slice (some ad) l01.length cap) → Calls Try.prog 46 #[.agg #[u00, u01], .int .i64 a1] W (fun e W' => ∃ vr1, e = .returned (.tuple #[.agg #[(.int .i64 n'), vr1], .bool r1]) ∧ OwnI W.heap.size W' vr1 l'1 ∧ Below W.heap.size W W')) :
    Calls Try.prog 9 #[.agg #[v00, v01], .int .i64 a1] w fun e w' => e = .returned (.bool true) ∧ Below w.heap.size w w' := by
  obtain ⟨a00, cap00, rfl, -, hm00⟩ := x00.form
  have HX00 := Lib.hid x00
  unfold maxLen at hm00
  clear hm00
  obtain ⟨a01, cap01, rfl, -, hm01⟩ := x01.form
  have HX01 := Lib.hid x01
  unfold maxLen at hm01
  clear hm01
  have HS := Lib.hid hs
  have HI := Lib.hid hi
  clear hs hi  x00 x01 
  have hne1 : (r1 != r1) = false := by simp
  have hp00 : (0 : Int) ≤ 1048576 - l00.length := by omega
  have hp01 : (0 : Int) ≤ 1048576 - l00.length - l01.length := by omega
  have hl900 : l00.length ≤ 100000000 := by omega
  have hl600 : l00.length ≤ 1048576 := by omega
  have hl901 : l01.length ≤ 100000000 := by omega
  have hl601 : l01.length ≤ 1048576 := by omega
  have hl9'1 : l'1.length ≤ 100000000 := by omega
  have BA0_0 := Lib.hid (show Box (w.heap.size) [.slice a00 l00.length cap00, .slice a01 l01.length cap01] (w.alloc (.cells #[.slice a00 l00.length cap00, .slice a01 l01.length cap01] 55)) from (Box.new w 55 [.slice a00 l00.length cap00, .slice a01 l01.length cap01]))
  have F0 := Lib.hid (show Below w.heap.size w (w.alloc (.cells #[.slice a00 l00.length cap00, .slice a01 l01.length cap01] 55)) from ((Below.refl _ w).alloc (Nat.le_refl _) (.cells #[.slice a00 l00.length cap00, .slice a01 l01.length cap01] 55)))
  go_enter Try.func9, Try.ntmps9
  have cA00 : (w.alloc (.cells #[.slice a00 l00.length cap00, .slice a01 l01.length cap01] 55)).cell? ⟨w.heap.size, 0, none⟩ = some (.slice a00 l00.length cap00) := BA0_0.out.1 0 _ rfl
  have cA01 : (w.alloc (.cells #[.slice a00 l00.length cap00, .slice a01 l01.length cap01] 55)).cell? ⟨w.heap.size, 1, none⟩ = some (.slice a01 l01.length cap01) := BA0_0.out.1 1 _ rfl
  have cA0z := BA0_0.out.2.2
  go_wp2_with fail
  refine (szTree_fits _ _ l00 l01 _ _ (HX00.out.on F0.out) (HX01.out.on F0.out) (by omega) (by omega)).mono ?_
  rintro e w1 ⟨rfl, hb⟩
  have BA0_1 := Lib.hid (BA0_0.out.on hb)
  have F1 := Lib.hid (F0.out.trans (hb.mono F0.out.size))
  have hz0 : w.heap.size + 1 ≤ w1.heap.size := BA0_1.out.2.2
  clear BA0_0 F0 hb cA00 cA01 cA0z
  have cA00 : w1.cell? ⟨w.heap.size, 0, none⟩ = some (.slice a00 l00.length cap00) := BA0_1.out.1 0 _ rfl
  have cA01 : w1.cell? ⟨w.heap.size, 1, none⟩ = some (.slice a01 l01.length cap01) := BA0_1.out.1 1 _ rfl
  have cA0z := BA0_1.out.2.2
  go_wp2_with fail
  refine (toTree_any _ _ l00 l01 _ (HX00.out.on F1.out) (HX01.out.on F1.out) hl600 hl601).mono ?_
  rintro e w2 ⟨tw00, tw01, K01, rfl, ho00, ho01, le01, lt01, hb⟩
  have BA0_2 := Lib.hid (BA0_1.out.on hb)
  have F2 := Lib.hid (F1.out.trans (hb.mono F1.out.size))
  have hz1 : w1.heap.size ≤ w2.heap.size := hb.size
  replace ho01 := ho01.mono (le01)
  have OT00_2 := Lib.hid (show OwnR w1.heap.size w2.heap.size w2 (tw00) l00 from ⟨ho00, fun k hk => (ho00.lt k hk).2⟩)
  have OT01_2 := Lib.hid (show OwnR w1.heap.size w2.heap.size w2 (tw01) l01 from ⟨ho01, fun k hk => (ho01.lt k hk).2⟩)
  clear BA0_1 F1 hb ho00 ho01 le01 lt01 cA00 cA01 cA0z
  go_wp2_with fail
  refine (HS.out _ _ _ OT00_2.out.1.ints OT01_2.out.1.ints OT00_2.out.1.nilform OT01_2.out.1.nilform).mono ?_
  rintro e w3 ⟨vw1, rfl, ho1, hb⟩
  have BA0_3 := Lib.hid (BA0_2.out.on hb)
  have OT00_3 := Lib.hid (OT00_2.out.on hb)
  have OT01_3 := Lib.hid (OT01_2.out.on hb)
  have F3 := Lib.hid (F2.out.trans (hb.mono F2.out.size))
  have hz2 : w2.heap.size ≤ w3.heap.size := hb.size
  obtain ⟨aW1, capW1, hvW1⟩ : ∃ a c, vw1 = .slice a l'1.length c := by obtain ⟨a, c, h, -, -⟩ := ho1.ints.form; exact ⟨a, c, h⟩
  subst hvW1
  have OW1_3 := Lib.hid (show OwnR w2.heap.size w3.heap.size w3 (.slice aW1 l'1.length capW1) l'1 from ⟨ho1, fun k hk => (ho1.lt k hk).2⟩)
  clear BA0_2 OT00_2 OT01_2 F2 hb ho1
  obtain ⟨w4, hw4⟩ : ∃ w4, w4 = w3.alloc (.cells #[.int .i64 n', .slice aW1 l'1.length capW1] 28) := ⟨_, rfl⟩
  have hb : Below w3.heap.size w3 w4 := by rw [hw4]; exact (Below.refl _ _).alloc (Nat.le_refl _) _
  have hzs3 : w3.heap.size < w4.heap.size := by rw [hw4]; simp
  have cA00 : w3.cell? ⟨w.heap.size, 0, none⟩ = some (.slice a00 l00.length cap00) := BA0_3.out.1 0 _ rfl
  have cA01 : w3.cell? ⟨w.heap.size, 1, none⟩ = some (.slice a01 l01.length cap01) := BA0_3.out.1 1 _ rfl
  have cA0z := BA0_3.out.2.2
  have BA0_4 := Lib.hid (BA0_3.out.on hb)
  have OW1_4 := Lib.hid (OW1_3.out.on hb)
  have F4 := Lib.hid (F3.out.trans (hb.mono F3.out.size))
  have hz3 : w3.heap.size ≤ w4.heap.size := hb.size
  have BW_4 := Lib.hid (show Box w3.heap.size [.int .i64 n', .slice aW1 l'1.length capW1] w4 by rw [hw4]; exact Box.new w3 _ _)
  go_wp2_with fail
  rw [← hw4]
  clear BA0_3 OW1_3 F3 hb hw4 cA00 cA01 cA0z
  refine (toTree_any _ _ l00 l01 _ (HX00.out.on F4.out) (HX01.out.on F4.out) hl600 hl601).mono ?_
  rintro e w5 ⟨vx00, vx01, K01, rfl, ho00, ho01, le01, lt01, hb⟩
  have BA0_5 := Lib.hid (BA0_4.out.on hb)
  have BW_5 := Lib.hid (BW_4.out.on hb)
  have OW1_5 := Lib.hid (OW1_4.out.on hb)
  have F5 := Lib.hid (F4.out.trans (hb.mono F4.out.size))
  have hz4 : w4.heap.size ≤ w5.heap.size := hb.size
  have dj00_01 : ∀ k, Value.ownBlock vx00 = some k → Value.ownBlock vx01 ≠ some k := fun k hk hk' => by have h1 := lt01 k hk; have h2 := (ho01.lt k hk').1; omega
  replace ho01 := ho01.mono (le01)
  have OX00_5 := Lib.hid (show OwnR w4.heap.size w5.heap.size w5 (vx00) l00 from ⟨ho00, fun k hk => (ho00.lt k hk).2⟩)
  have OX01_5 := Lib.hid (show OwnR w4.heap.size w5.heap.size w5 (vx01) l01 from ⟨ho01, fun k hk => (ho01.lt k hk).2⟩)
  clear BA0_4 BW_4 OW1_4 F4 hb ho00 ho01 le01 lt01
  obtain ⟨ax00, capx00, hvx00⟩ : ∃ a c, vx00 = .slice a l00.length c := by obtain ⟨a, c, h, -, -⟩ := OX00_5.out.1.ints.form; exact ⟨a, c, h⟩
  subst hvx00
  obtain ⟨ax01, capx01, hvx01⟩ : ∃ a c, vx01 = .slice a l01.length c := by obtain ⟨a, c, h, -, -⟩ := OX01_5.out.1.ints.form; exact ⟨a, c, h⟩
  subst hvx01
  obtain ⟨w6, hw6⟩ : ∃ w6, w6 = w5.alloc (.cells #[.slice ax00 l00.length capx00, .slice ax01 l01.length capx01] 58) := ⟨_, rfl⟩
  have hb : Below w5.heap.size w5 w6 := by rw [hw6]; exact (Below.refl _ _).alloc (Nat.le_refl _) _
  have hzs5 : w5.heap.size < w6.heap.size := by rw [hw6]; simp
  have BA0_6 := Lib.hid (BA0_5.out.on hb)
  have BW_6 := Lib.hid (BW_5.out.on hb)
  have OW1_6 := Lib.hid (OW1_5.out.on hb)
  have OX00_6 := Lib.hid (OX00_5.out.on hb)
  have OX01_6 := Lib.hid (OX01_5.out.on hb)
  have F6 := Lib.hid (F5.out.trans (hb.mono F5.out.size))
  have hz5 : w5.heap.size ≤ w6.heap.size := hb.size
  have BX0_6 := Lib.hid (show Box w5.heap.size [.slice ax00 l00.length capx00, .slice ax01 l01.length capx01] w6 by rw [hw6]; exact Box.new w5 _ _)
  go_wp2_with fail
  rw [← hw6]
  clear BA0_5 BW_5 OW1_5 OX00_5 OX01_5 F5 hb hw6
  refine (HI.out _ _ _ OX00_6.out.1.ints OX01_6.out.1.ints OX00_6.out.1.nilform OX01_6.out.1.nilform).mono ?_
  rintro e w7 ⟨vg1, rfl, ho1, hb⟩
  have BA0_7 := Lib.hid (BA0_6.out.on hb)
  have BW_7 := Lib.hid (BW_6.out.on hb)
  have BX0_7 := Lib.hid (BX0_6.out.on hb)
  have OW1_7 := Lib.hid (OW1_6.out.on hb)
  have OX00_7 := Lib.hid (OX00_6.out.on hb)
  have OX01_7 := Lib.hid (OX01_6.out.on hb)
  have F7 := Lib.hid (F6.out.trans (hb.mono F6.out.size))
  have hz6 : w6.heap.size ≤ w7.heap.size := hb.size
  obtain ⟨aG1, capG1, hvG1⟩ : ∃ a c, vg1 = .slice a l'1.length c := by obtain ⟨a, c, h, -, -⟩ := ho1.ints.form; exact ⟨a, c, h⟩
  subst hvG1
  have OG1_7 := Lib.hid (show OwnR w6.heap.size w7.heap.size w7 (.slice aG1 l'1.length capG1) l'1 from ⟨ho1, fun k hk => (ho1.lt k hk).2⟩)
  clear BA0_6 BW_6 BX0_6 OW1_6 OX00_6 OX01_6 F6 hb ho1
  obtain ⟨w8, hw8⟩ : ∃ w8, w8 = w7.alloc (.cells #[.int .i64 n', .slice aG1 l'1.length capG1] 28) := ⟨_, rfl⟩
  have hb : Below w7.heap.size w7 w8 := by rw [hw8]; exact (Below.refl _ _).alloc (Nat.le_refl _) _
  have hzs7 : w7.heap.size < w8.heap.size := by rw [hw8]; simp
  have cW0 : w7.cell? ⟨w3.heap.size, 0, none⟩ = some (.int .i64 n') := BW_7.out.1 0 _ rfl
  have cW1 : w7.cell? ⟨w3.heap.size, 1, none⟩ = some (.slice aW1 l'1.length capW1) := BW_7.out.1 1 _ rfl
  have cWz := BW_7.out.2.2
  have BA0_8 := Lib.hid (BA0_7.out.on hb)
  have BW_8 := Lib.hid (BW_7.out.on hb)
  have BX0_8 := Lib.hid (BX0_7.out.on hb)
  have OW1_8 := Lib.hid (OW1_7.out.on hb)
  have OX00_8 := Lib.hid (OX00_7.out.on hb)
  have OX01_8 := Lib.hid (OX01_7.out.on hb)
  have OG1_8 := Lib.hid (OG1_7.out.on hb)
  have F8 := Lib.hid (F7.out.trans (hb.mono F7.out.size))
  have hz7 : w7.heap.size ≤ w8.heap.size := hb.size
  have BG_8 := Lib.hid (show Box w7.heap.size [.int .i64 n', .slice aG1 l'1.length capG1] w8 by rw [hw8]; exact Box.new w7 _ _)
  go_wp2_with fail
  rw [← hw8]
  clear BA0_7 BW_7 BX0_7 OW1_7 OX00_7 OX01_7 OG1_7 F7 hb hw8 cW0 cW1 cWz
  refine (eqGraph_same n' _ _ l'1 _ OG1_8.out.1.ints OW1_8.out.1.ints hl9'1).mono ?_
  rintro e w9 ⟨rfl, hb⟩
  have BA0_9 := Lib.hid (BA0_8.out.on hb)
  have BW_9 := Lib.hid (BW_8.out.on hb)
  have BX0_9 := Lib.hid (BX0_8.out.on hb)
  have BG_9 := Lib.hid (BG_8.out.on hb)
  have OW1_9 := Lib.hid (OW1_8.out.on hb)
  have OX00_9 := Lib.hid (OX00_8.out.on hb)
  have OX01_9 := Lib.hid (OX01_8.out.on hb)
  have OG1_9 := Lib.hid (OG1_8.out.on hb)
  have F9 := Lib.hid (F8.out.trans (hb.mono F8.out.size))
  have hz8 : w8.heap.size ≤ w9.heap.size := hb.size
  clear BA0_8 BW_8 BX0_8 BG_8 OW1_8 OX00_8 OX01_8 OG1_8 F8 hb
  have HR : Hid (∀ W, Below w9.heap.size w9 W → W.cell? ⟨w.heap.size, 0, none⟩ = some (.slice a00 l00.length cap00) ∧ W.cell? ⟨w.heap.size, 1, none⟩ = some (.slice a01 l01.length cap01) ∧ W.cell? ⟨w5.heap.size, 0, none⟩ = some (.slice ax00 l00.length capx00) ∧ W.cell? ⟨w5.heap.size, 1, none⟩ = some (.slice ax01 l01.length capx01) ∧ Ints W (.slice a00 l00.length cap00) l00 ∧ Ints W (.slice a01 l01.length cap01) l01 ∧ Ints W (.slice ax00 l00.length capx00) l00 ∧ Ints W (.slice ax01 l01.length capx01) l01 ∧ Below w9.heap.size w9 W) := fun W hb => ⟨(BA0_9.out.on hb).1 0 _ rfl, (BA0_9.out.on hb).1 1 _ rfl, (BX0_9.out.on hb).1 0 _ rfl, (BX0_9.out.on hb).1 1 _ rfl, HX00.out.on (F9.out.trans (hb.mono F9.out.size)), HX01.out.on (F9.out.trans (hb.mono F9.out.size)), (OX00_9.out.on hb).1.ints, (OX01_9.out.on hb).1.ints, hb⟩
  go_wp2
  go_region_held3 (fun w' => w'.cell? ⟨w.heap.size, 0, none⟩ = some (.slice a00 l00.length cap00) ∧ w'.cell? ⟨w.heap.size, 1, none⟩ = some (.slice a01 l01.length cap01) ∧ w'.cell? ⟨w5.heap.size, 0, none⟩ = some (.slice ax00 l00.length capx00) ∧ w'.cell? ⟨w5.heap.size, 1, none⟩ = some (.slice ax01 l01.length capx01) ∧ Ints w' (.slice a00 l00.length cap00) l00 ∧ Ints w' (.slice a01 l01.length cap01) l01 ∧ Ints w' (.slice ax00 l00.length capx00) l00 ∧ Ints w' (.slice ax01 l01.length capx01) l01 ∧ Below w9.heap.size w9 w')
    (first | exact HR.out _ (Below.refl _ _).drew | exact HR.out _ (Below.refl _ _) | (go_split_ands; exact HR.out _ (btrans (by assumption) hb)))
    (first
      | (go_at_call 45; go_split_ands; refine (toTree_any _ _ l00 l01 _ (by assumption) (by assumption) hl600 hl601).mono ?_; rintro e wa ⟨vy00, vy01, K01, rfl, ho00, ho01, le01, lt01, hb⟩)
      | (go_at_call 47; go_split_ands; refine (eqTree_same _ _ _ _ l00 l01 _ (by assumption) (by assumption) ho00.ints ho01.ints hl900 hl901).mono ?_; rintro e w10 ⟨rfl, hb⟩))
  go_split_ands
  have hbE : Below w9.heap.size w9 w10 := by assumption
  have BA0_10 := Lib.hid (BA0_9.out.on hbE)
  have BW_10 := Lib.hid (BW_9.out.on hbE)
  have BX0_10 := Lib.hid (BX0_9.out.on hbE)
  have BG_10 := Lib.hid (BG_9.out.on hbE)
  have OW1_10 := Lib.hid (OW1_9.out.on hbE)
  have OX00_10 := Lib.hid (OX00_9.out.on hbE)
  have OX01_10 := Lib.hid (OX01_9.out.on hbE)
  have OG1_10 := Lib.hid (OG1_9.out.on hbE)
  have F10 := Lib.hid (F9.out.trans (hbE.mono F9.out.size))
  have hz9 : w9.heap.size ≤ w10.heap.size := hbE.size
  clear BA0_9 BW_9 BX0_9 BG_9 OW1_9 OX00_9 OX01_9 OG1_9 F9 HR hbE hb ho00 ho01 le01 lt01
  have cX00 : w10.cell? ⟨w5.heap.size, 0, none⟩ = some (.slice ax00 l00.length capx00) := BX0_10.out.1 0 _ rfl
  have cX01 : w10.cell? ⟨w5.heap.size, 1, none⟩ = some (.slice ax01 l01.length capx01) := BX0_10.out.1 1 _ rfl
  have cX0z := BX0_10.out.2.2
  go_wp2_with fail
  refine (markTree_any _ _ _ _ l00 l01 (1 : Int) _ OX00_10.out OX01_10.out dj00_01 hl900 hl901 (by omega) (by omega) (by omega)).mono ?_
  rintro e w11 ⟨rfl, hO, -⟩
  have BA0_11 := Lib.hid (BA0_10.out.keepO hO (by omega))
  have BW_11 := Lib.hid (BW_10.out.keepO hO (by omega))
  have BG_11 := Lib.hid (BG_10.out.keepO hO (by omega))
  have OW1_11 := Lib.hid (OW1_10.out.keepO hO (by omega))
  have OG1_11 := Lib.hid (OG1_10.out.keepO hO (by omega))
  have F11 := Lib.hid (Below.only F10.out hO (by omega) (Nat.le_refl _))
  have hz10 : w10.heap.size ≤ w11.heap.size := hO.size
  clear BA0_10 BW_10 BX0_10 BG_10 OW1_10 OX00_10 OX01_10 OG1_10 F10 hO cX00 cX01 cX0z
  have hk : decide ((((1 : Int) + l00.length) + l01.length) < 0) = false := by simp; omega
  have cG0 : w11.cell? ⟨w7.heap.size, 0, none⟩ = some (.int .i64 n') := BG_11.out.1 0 _ rfl
  have cG1 : w11.cell? ⟨w7.heap.size, 1, none⟩ = some (.slice aG1 l'1.length capG1) := BG_11.out.1 1 _ rfl
  have cGz := BG_11.out.2.2
  have cW0 : w11.cell? ⟨w3.heap.size, 0, none⟩ = some (.int .i64 n') := BW_11.out.1 0 _ rfl
  have cW1 : w11.cell? ⟨w3.heap.size, 1, none⟩ = some (.slice aW1 l'1.length capW1) := BW_11.out.1 1 _ rfl
  have cWz := BW_11.out.2.2
  go_wp2_with fail
  refine (eqGraph_same n' _ _ l'1 _ OG1_11.out.1.ints OW1_11.out.1.ints hl9'1).mono ?_
  rintro e w12 ⟨rfl, hb⟩
  have BA0_12 := Lib.hid (BA0_11.out.on hb)
  have BW_12 := Lib.hid (BW_11.out.on hb)
  have BG_12 := Lib.hid (BG_11.out.on hb)
  have OW1_12 := Lib.hid (OW1_11.out.on hb)
  have OG1_12 := Lib.hid (OG1_11.out.on hb)
  have F12 := Lib.hid (F11.out.trans (hb.mono F11.out.size))
  have hz11 : w11.heap.size ≤ w12.heap.size := hb.size
  clear BA0_11 BW_11 BG_11 OW1_11 OG1_11 F11 hb cG0 cG1 cGz cW0 cW1 cWz
  have cG0 : w12.cell? ⟨w7.heap.size, 0, none⟩ = some (.int .i64 n') := BG_12.out.1 0 _ rfl
  have cG1 : w12.cell? ⟨w7.heap.size, 1, none⟩ = some (.slice aG1 l'1.length capG1) := BG_12.out.1 1 _ rfl
  have cGz := BG_12.out.2.2
  go_wp2_with fail
  refine (markGraph_any _ n' _ l'1 1 _ OG1_12.out.1 hl9'1 (by omega) (by omega)).mono ?_
  rintro e w13 ⟨rfl, ho, hg⟩
  have hO := Only.of_grown hg (fun k hk => ⟨(OG1_12.out.1.lt k hk).1, OG1_12.out.2 k hk⟩)
  have hG2 := OG1_12.out.2
  have BA0_13 := Lib.hid (BA0_12.out.keepO hO (by omega))
  have BW_13 := Lib.hid (BW_12.out.keepO hO (by omega))
  have BG_13 := Lib.hid (BG_12.out.keepO hO (by omega))
  have OW1_13 := Lib.hid (OW1_12.out.keepO hO (by omega))
  have F13 := Lib.hid (Below.only F12.out hO (by omega) (Nat.le_refl _))
  have hz12 : w12.heap.size ≤ w13.heap.size := hO.size
  have OG1_13 := Lib.hid (show OwnR _ _ w13 (.slice aG1 l'1.length capG1) (marks 1 l'1.length) from ⟨ho, hG2⟩)
  clear BA0_12 BW_12 BG_12 OW1_12 OG1_12 F12 hO ho hg hG2 cG0 cG1 cGz
  have cG0 : w13.cell? ⟨w7.heap.size, 0, none⟩ = some (.int .i64 n') := BG_13.out.1 0 _ rfl
  have cG1 : w13.cell? ⟨w7.heap.size, 1, none⟩ = some (.slice aG1 l'1.length capG1) := BG_13.out.1 1 _ rfl
  have cGz := BG_13.out.2.2
  go_wp2_with fail
  refine (heldGraph_any n' _ 1 l'1.length _ OG1_13.out.1.ints hl9'1 (by omega) (by omega)).mono ?_
  rintro e w14 ⟨rfl, hb⟩
  have BA0_14 := Lib.hid (BA0_13.out.on hb)
  have BW_14 := Lib.hid (BW_13.out.on hb)
  have BG_14 := Lib.hid (BG_13.out.on hb)
  have OW1_14 := Lib.hid (OW1_13.out.on hb)
  have OG1_14 := Lib.hid (OG1_13.out.on hb)
  have F14 := Lib.hid (F13.out.trans (hb.mono F13.out.size))
  have hz13 : w13.heap.size ≤ w14.heap.size := hb.size
  clear BA0_13 BW_13 BG_13 OW1_13 OG1_13 F13 hb cG0 cG1 cGz
  have hk' : decide ((1 : Int) + l'1.length < 0) = false := by simp; omega
  have hq : ((1 : Int) + l'1.length != 1 + l'1.length) = false := by simp
  have cA00 : w14.cell? ⟨w.heap.size, 0, none⟩ = some (.slice a00 l00.length cap00) := BA0_14.out.1 0 _ rfl
  have cA01 : w14.cell? ⟨w.heap.size, 1, none⟩ = some (.slice a01 l01.length cap01) := BA0_14.out.1 1 _ rfl
  have cA0z := BA0_14.out.2.2
  go_wp2_with fail
  refine (toTree_any _ _ l00 l01 _ (HX00.out.on F14.out) (HX01.out.on F14.out) hl600 hl601).mono ?_
  rintro e w15 ⟨th00, th01, K01, rfl, ho00, ho01, le01, lt01, hb⟩
  have BA0_15 := Lib.hid (BA0_14.out.on hb)
  have BW_15 := Lib.hid (BW_14.out.on hb)
  have BG_15 := Lib.hid (BG_14.out.on hb)
  have OW1_15 := Lib.hid (OW1_14.out.on hb)
  have OG1_15 := Lib.hid (OG1_14.out.on hb)
  have F15 := Lib.hid (F14.out.trans (hb.mono F14.out.size))
  have hz14 : w14.heap.size ≤ w15.heap.size := hb.size
  replace ho01 := ho01.mono (le01)
  have OT00_15 := Lib.hid (show OwnR w14.heap.size w15.heap.size w15 (th00) l00 from ⟨ho00, fun k hk => (ho00.lt k hk).2⟩)
  have OT01_15 := Lib.hid (show OwnR w14.heap.size w15.heap.size w15 (th01) l01 from ⟨ho01, fun k hk => (ho01.lt k hk).2⟩)
  clear BA0_14 BW_14 BG_14 OW1_14 OG1_14 F14 hb ho00 ho01 le01 lt01 cA00 cA01 cA0z
  go_wp2_with fail
  refine (HI.out _ _ _ OT00_15.out.1.ints OT01_15.out.1.ints OT00_15.out.1.nilform OT01_15.out.1.nilform).mono ?_
  rintro e w16 ⟨vh1, rfl, ho1, hb⟩
  have BA0_16 := Lib.hid (BA0_15.out.on hb)
  have BW_16 := Lib.hid (BW_15.out.on hb)
  have BG_16 := Lib.hid (BG_15.out.on hb)
  have OW1_16 := Lib.hid (OW1_15.out.on hb)
  have OG1_16 := Lib.hid (OG1_15.out.on hb)
  have OT00_16 := Lib.hid (OT00_15.out.on hb)
  have OT01_16 := Lib.hid (OT01_15.out.on hb)
  have F16 := Lib.hid (F15.out.trans (hb.mono F15.out.size))
  have hz15 : w15.heap.size ≤ w16.heap.size := hb.size
  obtain ⟨aH1, capH1, hvH1⟩ : ∃ a c, vh1 = .slice a l'1.length c := by obtain ⟨a, c, h, -, -⟩ := ho1.ints.form; exact ⟨a, c, h⟩
  subst hvH1
  have OH1_16 := Lib.hid (show OwnR w15.heap.size w16.heap.size w16 (.slice aH1 l'1.length capH1) l'1 from ⟨ho1, fun k hk => (ho1.lt k hk).2⟩)
  clear BA0_15 BW_15 BG_15 OW1_15 OG1_15 OT00_15 OT01_15 F15 hb ho1
  obtain ⟨w17, hw17⟩ : ∃ w17, w17 = w16.alloc (.cells #[.int .i64 n', .slice aH1 l'1.length capH1] 28) := ⟨_, rfl⟩
  have hb : Below w16.heap.size w16 w17 := by rw [hw17]; exact (Below.refl _ _).alloc (Nat.le_refl _) _
  have hzs16 : w16.heap.size < w17.heap.size := by rw [hw17]; simp
  have cW0 : w16.cell? ⟨w3.heap.size, 0, none⟩ = some (.int .i64 n') := BW_16.out.1 0 _ rfl
  have cW1 : w16.cell? ⟨w3.heap.size, 1, none⟩ = some (.slice aW1 l'1.length capW1) := BW_16.out.1 1 _ rfl
  have cWz := BW_16.out.2.2
  have BA0_17 := Lib.hid (BA0_16.out.on hb)
  have BW_17 := Lib.hid (BW_16.out.on hb)
  have BG_17 := Lib.hid (BG_16.out.on hb)
  have OW1_17 := Lib.hid (OW1_16.out.on hb)
  have OG1_17 := Lib.hid (OG1_16.out.on hb)
  have OH1_17 := Lib.hid (OH1_16.out.on hb)
  have F17 := Lib.hid (F16.out.trans (hb.mono F16.out.size))
  have hz16 : w16.heap.size ≤ w17.heap.size := hb.size
  have BH_17 := Lib.hid (show Box w16.heap.size [.int .i64 n', .slice aH1 l'1.length capH1] w17 by rw [hw17]; exact Box.new w16 _ _)
  go_wp2_with fail
  rw [← hw17]
  clear BA0_16 BW_16 BG_16 OW1_16 OG1_16 OH1_16 F16 hb hw17 cW0 cW1 cWz
  refine (eqGraph_same n' _ _ l'1 _ OH1_17.out.1.ints OW1_17.out.1.ints hl9'1).mono ?_
  rintro e w18 ⟨rfl, hb⟩
  have BA0_18 := Lib.hid (BA0_17.out.on hb)
  have BW_18 := Lib.hid (BW_17.out.on hb)
  have BG_18 := Lib.hid (BG_17.out.on hb)
  have BH_18 := Lib.hid (BH_17.out.on hb)
  have OW1_18 := Lib.hid (OW1_17.out.on hb)
  have OG1_18 := Lib.hid (OG1_17.out.on hb)
  have OH1_18 := Lib.hid (OH1_17.out.on hb)
  have F18 := Lib.hid (F17.out.trans (hb.mono F17.out.size))
  have hz17 : w17.heap.size ≤ w18.heap.size := hb.size
  clear BA0_17 BW_17 BG_17 BH_17 OW1_17 OG1_17 OH1_17 F17 hb
  have cG0 : w18.cell? ⟨w7.heap.size, 0, none⟩ = some (.int .i64 n') := BG_18.out.1 0 _ rfl
  have cG1 : w18.cell? ⟨w7.heap.size, 1, none⟩ = some (.slice aG1 l'1.length capG1) := BG_18.out.1 1 _ rfl
  have cGz := BG_18.out.2.2
  go_wp2_with fail
  refine (heldGraph_any n' _ 1 l'1.length _ OG1_18.out.1.ints hl9'1 (by omega) (by omega)).mono ?_
  rintro e w19 ⟨rfl, hb⟩
  have BA0_19 := Lib.hid (BA0_18.out.on hb)
  have BW_19 := Lib.hid (BW_18.out.on hb)
  have BG_19 := Lib.hid (BG_18.out.on hb)
  have OW1_19 := Lib.hid (OW1_18.out.on hb)
  have OG1_19 := Lib.hid (OG1_18.out.on hb)
  have F19 := Lib.hid (F18.out.trans (hb.mono F18.out.size))
  have hz18 : w18.heap.size ≤ w19.heap.size := hb.size
  clear BA0_18 BW_18 BG_18 OW1_18 OG1_18 F18 hb cG0 cG1 cGz
  go_wp2
  go_ret
  exact ⟨rfl, F19.out⟩

set_option maxHeartbeats 1000000 in
set_option maxRecDepth 100000 in
theorem walk (v00 : Value) (l00 : List Int) (v01 : Value) (l01 : List Int) (a1 : Int) (w : World) (x00 : Ints w v00 l00) (x01 : Ints w v01 l01) (w1 : (Lit.int .i64 a1).wf = true) : Calls Try.prog 9 #[.agg #[v00, v01], .int .i64 a1] w fun e w' => e = .returned (.bool true) ∧ Below w.heap.size w w' := by
  by_cases hb0 : 1048576 < (l00.length : Int) + (l01.length : Int)
  · skip
    obtain ⟨a00, cap00, rfl, -, hm00⟩ := x00.form
    have HX00 := Lib.hid x00
    obtain ⟨a01, cap01, rfl, -, hm01⟩ := x01.form
    have HX01 := Lib.hid x01
    clear  x00 x01 
    have BA0_0 := Lib.hid (show Box (w.heap.size) [.slice a00 l00.length cap00, .slice a01 l01.length cap01] (w.alloc (.cells #[.slice a00 l00.length cap00, .slice a01 l01.length cap01] 55)) from (Box.new w 55 [.slice a00 l00.length cap00, .slice a01 l01.length cap01]))
    have F0 := Lib.hid (show Below w.heap.size w (w.alloc (.cells #[.slice a00 l00.length cap00, .slice a01 l01.length cap01] 55)) from ((Below.refl _ w).alloc (Nat.le_refl _) (.cells #[.slice a00 l00.length cap00, .slice a01 l01.length cap01] 55)))
    go_enter Try.func9, Try.ntmps9
    have cc00 : (w.alloc (.cells #[.slice a00 l00.length cap00, .slice a01 l01.length cap01] 55)).cell? ⟨w.heap.size, 0, none⟩ = some (.slice a00 l00.length cap00) := BA0_0.out.1 0 _ rfl
    have cc01 : (w.alloc (.cells #[.slice a00 l00.length cap00, .slice a01 l01.length cap01] 55)).cell? ⟨w.heap.size, 1, none⟩ = some (.slice a01 l01.length cap01) := BA0_0.out.1 1 _ rfl
    go_wp2_with fail
    refine (szTree_over _ _ l00 l01 _ _ (HX00.out.on F0.out) (HX01.out.on F0.out) (by omega) (by omega) (by omega)).mono ?_
    rintro e w1 ⟨rfl, hb⟩
    have BA0_1 := Lib.hid (BA0_0.out.on hb)
    have F1 := Lib.hid (F0.out.trans (hb.mono F0.out.size))
    clear hb BA0_0 F0 cc00 cc01
    go_wp2
    go_ret
    exact ⟨rfl, F1.out⟩
  exact core v00 l00 v01 l01 a1 w x00 x01 w1 (gtN l00 l01 a1) (gtL l00 l01 a1) (decide (GtP l00 l01 a1)) (Nat.le_trans (gtL_length _ _ _) (by omega)) (by omega)
    (fun W u00 u01 h00 h01 _ _ => specGTree u00 u01 l00 l01 a1 W h00 h01 (by omega) (by omega))
    (fun W u00 u01 h00 h01 _ _ => implGTree u00 u01 l00 l01 a1 W h00 h01 (by omega) (by omega))

set_option maxRecDepth 100000 in
theorem lifted (os : Os) (started : os.Started) (H : Type) (enc : TypeId × Value → H) :
    ReturnsInHanded {} Try.checked os 9 .any (Rows.fnExactGraphOfTreeSpec.pre6 enc Try.prog Try.f9 Rows.fnExactGraphOfTreeRow.domain false) (Rows.fnExactGraphOfTreeSpec.post enc Try.prog Try.f9 false true false false) := by
  refine returnsInHanded_of_change (C := Try.checked) own started (by kernel_rfl) Try.func9
    (ChangeSpec.witness6 (enc := enc) (C := Try.checked) false ⟨#[], #[.agg #[.slice none 0 0, .slice none 0 0], .int .i64 0], []⟩ 8 (by kernel_rfl) (by kernel_rfl) (by kernel_rfl) (by kernel_rfl)) ?_
  intro W base args ds gs before hval0 hW hcnd _
  have hval : ∀ (j : Nat) t v, Try.f9.params[j]? = some t → args[j]? = some v → Value.okWide Try.prog W .any base t v := hval0
  have hW' := hW
  obtain ⟨p, q, hA0, hV, rfl, hfz, hnd⟩ := hW
  have hA : DataW.TrodAll enc Try.prog W 0 (fun _ => true) true Try.f9.params.toList args.toList ds p := hA0
  rw [Try.params9] at hA hval
  obtain ⟨v0, vs0, d0, ds0, p0, q0, hargs, rfl, rfl, h0, r0⟩ := trodAll_cons hA
  obtain ⟨v1, vs1, d1, ds1, p1, q1, rfl, rfl, rfl, h1, r1⟩ := trodAll_cons r0
  obtain ⟨rfl, rfl, rfl⟩ := trodAll_nil r1
  obtain rfl : args = #[v0, v1] := by cases args; simp_all
  obtain ⟨rfl, rfl⟩ := trodVars_none hV
  have k0 := h0
  obtain ⟨u00, l00, u01, l01, rfl, x00, x01⟩ := open_ss Try.underlying55 (by kernel_rfl) (by kernel_rfl) Try.underlying22 Try.underlying22 Try.underlying3 (by kernel_rfl) (hval 0 55 v0 rfl rfl) h0
  obtain ⟨a1, rfl, rfl, rfl, w1⟩ := open_int Try.underlying3 (hval 1 3 v1 rfl rfl) h1
  clear hA0 hval0
  refine (walk u00 l00 u01 l01 a1 W x00 x01 w1).mono fun e W' ⟨he, bel⟩ => ?_
  subst he
  exact ⟨_, rfl, _, _, _, [], _, [], hW', (trodAll_cons_mk (shut_bool Try.underlying4 _) trodAll_mk0), (trodAll_cons_mk (Below.trod laidOut (by kernel_rfl) (of_decide_eq_true (by kernel_rfl)) k0 bel (lt_of_trod k0)) (trodAll_cons_mk (shut_int Try.underlying3 w1) trodAll_mk0)), rfl, bel.frame _, fun h => by cases h⟩

theorem proved : Rows.FnExactGraphOfTreeSaid :=
  OpenClaim.holds_of_wide 9 Try.f9 rfl rfl rfl rfl rfl rfl rfl ⟨rfl, rfl, rfl, rfl, rfl⟩ rfl rfl rfl rfl rfl (by kernel_rfl) Try.func9 (by kernel_rfl)
    (of_decide_eq_true (by kernel_rfl)) (by unfold Func.isWrapper; first | (rw [if_pos (by decide +kernel)]; kernel_rfl) | (rw [if_neg (by decide +kernel)]; exact ⟨rfl, rfl⟩))
    (fun os started H enc _ => lifted os started H enc)
#print axioms proved
end Go.Proofs.Ytcpchdnhhjhpaaa.fnExactGraphOfTree
