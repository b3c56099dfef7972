/- At every argument TreeSeparators answers as its specification, writes into no argument, and its answer owns its memory. -/
import Derived.Test.YtcpchdnhhjhpaaaRows
import Derived.Test.YtcpchdnhhjhpaaaSh
import Derived.Test.YtcpchdnhhjhpaaaBx
import Derived.Test.YtcpchdnhhjhpaaaGl
import Derived.Test.YtcpchdnhhjhpaaaBt
import Derived.Test.YtcpchdnhhjhpaaaBx
import Derived.Test.YtcpchdnhhjhpaaaTv
import Derived.Test.YtcpchdnhhjhpaaaTj
import Derived.WalkKit
import Derived.Lib.LaidTab
import Derived.ProofKit
import Derived.LaidMore
import Derived.OpenShut
import Derived.ShutString
import Derived.ChangeOld
import Derived.Below
import Derived.Stop.Joined
import Derived.Stop.LaidErr
namespace Go.Proofs.Ytcpchdnhhjhpaaa.fnExactTreeSeparators
open Go.ChangeShapes Go.WideShapes Go.ChangeAt Go.RowKit
open Go.ChangeMaps (open_string shut_string)
set_option linter.unusedVariables false

theorem own : ownKnob Try.prog.godebug = none := by kernel_rfl

theorem laidOut : laidOutB Try.prog = true := by kernel_rfl

set_option maxHeartbeats 4000000 in
set_option maxRecDepth 100000 in
theorem core (v00 : Value) (l00 : List Int) (v01 : Value) (l01 : List Int) (w : World) (x00 : Ints w v00 l00) (x01 : Ints w v01 l01) (l'0 : List Int) (hl'0 : l'0.length ≤ 1048576) (hbig : (l00.length : Int) + (l01.length : Int) ≤ 1048576)
    (hs : ∀ (W : World) (u00 : Value) (u01 : Value), Ints W u00 l00 → Ints W u01 l01 → (u00 = .slice none 0 0 ∨ ∃ ad cap, u00 = .slice (some ad) l00.length cap) → (u01 = .slice none 0 0 ∨ ∃ ad cap, u01 = .slice (some ad) l01.length cap) → Calls Try.prog 57 #[.agg #[u00, u01]] W (fun e W' => ∃ vr0, e = .returned (vr0) ∧ OwnI W.heap.size W' vr0 l'0 ∧ Below W.heap.size W W'))
    (hi : ∀ (W : World) (u00 : Value) (u01 : Value), Ints W u00 l00 → Ints W u01 l01 → (u00 = .slice none 0 0 ∨ ∃ ad cap, u00 = .slice (some ad) l00.length cap) → (u01 = .slice none 0 0 ∨ ∃ ad cap, u01 = .slice (some ad) l01.length cap) → Calls Try.prog 58 #[.agg #[u00, u01]] W (fun e W' => ∃ vr0, e = .returned (vr0) ∧ OwnI W.heap.size W' vr0 l'0 ∧ Below W.heap.size W W')) :
    Calls Try.prog 12 #[.agg #[v00, v01]] w fun e w' => e = .returned (.bool true) ∧ Below w.heap.size w w' := by
  obtain ⟨a00, cap00, rfl, -, hm00⟩ := x00.form
  have HX00 := Lib.hid x00
  unfold maxLen at hm00
  clear hm00
  obtain ⟨a01, cap01, rfl, -, hm01⟩ := x01.form
  have HX01 := Lib.hid x01
  unfold maxLen at hm01
  clear hm01
  have HS := Lib.hid hs
  have HI := Lib.hid hi
  clear hs hi  x00 x01 
  have hp00 : (0 : Int) ≤ 1048576 - l00.length := by omega
  have hp01 : (0 : Int) ≤ 1048576 - l00.length - l01.length := by omega
  have hl900 : l00.length ≤ 100000000 := by omega
  have hl600 : l00.length ≤ 1048576 := by omega
  have hl901 : l01.length ≤ 100000000 := by omega
  have hl601 : l01.length ≤ 1048576 := by omega
  have hl9'0 : l'0.length ≤ 100000000 := by omega
  have BA0_0 := Lib.hid (show Box (w.heap.size) [.slice a00 l00.length cap00, .slice a01 l01.length cap01] (w.alloc (.cells #[.slice a00 l00.length cap00, .slice a01 l01.length cap01] 55)) from (Box.new w 55 [.slice a00 l00.length cap00, .slice a01 l01.length cap01]))
  have F0 := Lib.hid (show Below w.heap.size w (w.alloc (.cells #[.slice a00 l00.length cap00, .slice a01 l01.length cap01] 55)) from ((Below.refl _ w).alloc (Nat.le_refl _) (.cells #[.slice a00 l00.length cap00, .slice a01 l01.length cap01] 55)))
  go_enter Try.func12, Try.ntmps12
  have cA00 : (w.alloc (.cells #[.slice a00 l00.length cap00, .slice a01 l01.length cap01] 55)).cell? ⟨w.heap.size, 0, none⟩ = some (.slice a00 l00.length cap00) := BA0_0.out.1 0 _ rfl
  have cA01 : (w.alloc (.cells #[.slice a00 l00.length cap00, .slice a01 l01.length cap01] 55)).cell? ⟨w.heap.size, 1, none⟩ = some (.slice a01 l01.length cap01) := BA0_0.out.1 1 _ rfl
  have cA0z := BA0_0.out.2.2
  go_wp2_with fail
  refine (szTree_fits _ _ l00 l01 _ _ (HX00.out.on F0.out) (HX01.out.on F0.out) (by omega) (by omega)).mono ?_
  rintro e w1 ⟨rfl, hb⟩
  have BA0_1 := Lib.hid (BA0_0.out.on hb)
  have F1 := Lib.hid (F0.out.trans (hb.mono F0.out.size))
  have hz0 : w.heap.size + 1 ≤ w1.heap.size := BA0_1.out.2.2
  clear BA0_0 F0 hb cA00 cA01 cA0z
  have cA00 : w1.cell? ⟨w.heap.size, 0, none⟩ = some (.slice a00 l00.length cap00) := BA0_1.out.1 0 _ rfl
  have cA01 : w1.cell? ⟨w.heap.size, 1, none⟩ = some (.slice a01 l01.length cap01) := BA0_1.out.1 1 _ rfl
  have cA0z := BA0_1.out.2.2
  go_wp2_with fail
  refine (toTree_any _ _ l00 l01 _ (HX00.out.on F1.out) (HX01.out.on F1.out) hl600 hl601).mono ?_
  rintro e w2 ⟨tw00, tw01, K01, rfl, ho00, ho01, le01, lt01, hb⟩
  have BA0_2 := Lib.hid (BA0_1.out.on hb)
  have F2 := Lib.hid (F1.out.trans (hb.mono F1.out.size))
  have hz1 : w1.heap.size ≤ w2.heap.size := hb.size
  replace ho01 := ho01.mono (le01)
  have OT00_2 := Lib.hid (show OwnR w1.heap.size w2.heap.size w2 (tw00) l00 from ⟨ho00, fun k hk => (ho00.lt k hk).2⟩)
  have OT01_2 := Lib.hid (show OwnR w1.heap.size w2.heap.size w2 (tw01) l01 from ⟨ho01, fun k hk => (ho01.lt k hk).2⟩)
  clear BA0_1 F1 hb ho00 ho01 le01 lt01 cA00 cA01 cA0z
  go_wp2_with fail
  refine (HS.out _ _ _ OT00_2.out.1.ints OT01_2.out.1.ints OT00_2.out.1.nilform OT01_2.out.1.nilform).mono ?_
  rintro e w3 ⟨vw0, rfl, ho0, hb⟩
  have BA0_3 := Lib.hid (BA0_2.out.on hb)
  have OT00_3 := Lib.hid (OT00_2.out.on hb)
  have OT01_3 := Lib.hid (OT01_2.out.on hb)
  have F3 := Lib.hid (F2.out.trans (hb.mono F2.out.size))
  have hz2 : w2.heap.size ≤ w3.heap.size := hb.size
  have OW0_3 := Lib.hid (show OwnR w2.heap.size w3.heap.size w3 (vw0) l'0 from ⟨ho0, fun k hk => (ho0.lt k hk).2⟩)
  clear BA0_2 OT00_2 OT01_2 F2 hb ho0
  have cA00 : w3.cell? ⟨w.heap.size, 0, none⟩ = some (.slice a00 l00.length cap00) := BA0_3.out.1 0 _ rfl
  have cA01 : w3.cell? ⟨w.heap.size, 1, none⟩ = some (.slice a01 l01.length cap01) := BA0_3.out.1 1 _ rfl
  have cA0z := BA0_3.out.2.2
  go_wp2_with fail
  refine (toTree_any _ _ l00 l01 _ (HX00.out.on F3.out) (HX01.out.on F3.out) hl600 hl601).mono ?_
  rintro e w4 ⟨vx00, vx01, K01, rfl, ho00, ho01, le01, lt01, hb⟩
  have BA0_4 := Lib.hid (BA0_3.out.on hb)
  have OW0_4 := Lib.hid (OW0_3.out.on hb)
  have F4 := Lib.hid (F3.out.trans (hb.mono F3.out.size))
  have hz3 : w3.heap.size ≤ w4.heap.size := hb.size
  have dj00_01 : ∀ k, Value.ownBlock vx00 = some k → Value.ownBlock vx01 ≠ some k := fun k hk hk' => by have h1 := lt01 k hk; have h2 := (ho01.lt k hk').1; omega
  replace ho01 := ho01.mono (le01)
  have OX00_4 := Lib.hid (show OwnR w3.heap.size w4.heap.size w4 (vx00) l00 from ⟨ho00, fun k hk => (ho00.lt k hk).2⟩)
  have OX01_4 := Lib.hid (show OwnR w3.heap.size w4.heap.size w4 (vx01) l01 from ⟨ho01, fun k hk => (ho01.lt k hk).2⟩)
  clear BA0_3 OW0_3 F3 hb ho00 ho01 le01 lt01 cA00 cA01 cA0z
  obtain ⟨ax00, capx00, hvx00⟩ : ∃ a c, vx00 = .slice a l00.length c := by obtain ⟨a, c, h, -, -⟩ := OX00_4.out.1.ints.form; exact ⟨a, c, h⟩
  subst hvx00
  obtain ⟨ax01, capx01, hvx01⟩ : ∃ a c, vx01 = .slice a l01.length c := by obtain ⟨a, c, h, -, -⟩ := OX01_4.out.1.ints.form; exact ⟨a, c, h⟩
  subst hvx01
  obtain ⟨w5, hw5⟩ : ∃ w5, w5 = w4.alloc (.cells #[.slice ax00 l00.length capx00, .slice ax01 l01.length capx01] 58) := ⟨_, rfl⟩
  have hb : Below w4.heap.size w4 w5 := by rw [hw5]; exact (Below.refl _ _).alloc (Nat.le_refl _) _
  have hzs4 : w4.heap.size < w5.heap.size := by rw [hw5]; simp
  have BA0_5 := Lib.hid (BA0_4.out.on hb)
  have OW0_5 := Lib.hid (OW0_4.out.on hb)
  have OX00_5 := Lib.hid (OX00_4.out.on hb)
  have OX01_5 := Lib.hid (OX01_4.out.on hb)
  have F5 := Lib.hid (F4.out.trans (hb.mono F4.out.size))
  have hz4 : w4.heap.size ≤ w5.heap.size := hb.size
  have BX0_5 := Lib.hid (show Box w4.heap.size [.slice ax00 l00.length capx00, .slice ax01 l01.length capx01] w5 by rw [hw5]; exact Box.new w4 _ _)
  go_wp2_with fail
  rw [← hw5]
  clear BA0_4 OW0_4 OX00_4 OX01_4 F4 hb hw5
  refine (HI.out _ _ _ OX00_5.out.1.ints OX01_5.out.1.ints OX00_5.out.1.nilform OX01_5.out.1.nilform).mono ?_
  rintro e w6 ⟨vg0, rfl, ho0, hb⟩
  have BA0_6 := Lib.hid (BA0_5.out.on hb)
  have BX0_6 := Lib.hid (BX0_5.out.on hb)
  have OW0_6 := Lib.hid (OW0_5.out.on hb)
  have OX00_6 := Lib.hid (OX00_5.out.on hb)
  have OX01_6 := Lib.hid (OX01_5.out.on hb)
  have F6 := Lib.hid (F5.out.trans (hb.mono F5.out.size))
  have hz5 : w5.heap.size ≤ w6.heap.size := hb.size
  have OG0_6 := Lib.hid (show OwnR w5.heap.size w6.heap.size w6 (vg0) l'0 from ⟨ho0, fun k hk => (ho0.lt k hk).2⟩)
  clear BA0_5 BX0_5 OW0_5 OX00_5 OX01_5 F5 hb ho0
  go_wp2_with fail
  refine (eqIntS_same _ _ l'0 _ OG0_6.out.1.ints OW0_6.out.1.ints hl9'0).mono ?_
  rintro e w7 ⟨rfl, hb⟩
  have BA0_7 := Lib.hid (BA0_6.out.on hb)
  have BX0_7 := Lib.hid (BX0_6.out.on hb)
  have OW0_7 := Lib.hid (OW0_6.out.on hb)
  have OX00_7 := Lib.hid (OX00_6.out.on hb)
  have OX01_7 := Lib.hid (OX01_6.out.on hb)
  have OG0_7 := Lib.hid (OG0_6.out.on hb)
  have F7 := Lib.hid (F6.out.trans (hb.mono F6.out.size))
  have hz6 : w6.heap.size ≤ w7.heap.size := hb.size
  clear BA0_6 BX0_6 OW0_6 OX00_6 OX01_6 OG0_6 F6 hb
  have HR : Hid (∀ W, Below w7.heap.size w7 W → W.cell? ⟨w.heap.size, 0, none⟩ = some (.slice a00 l00.length cap00) ∧ W.cell? ⟨w.heap.size, 1, none⟩ = some (.slice a01 l01.length cap01) ∧ W.cell? ⟨w4.heap.size, 0, none⟩ = some (.slice ax00 l00.length capx00) ∧ W.cell? ⟨w4.heap.size, 1, none⟩ = some (.slice ax01 l01.length capx01) ∧ Ints W (.slice a00 l00.length cap00) l00 ∧ Ints W (.slice a01 l01.length cap01) l01 ∧ Ints W (.slice ax00 l00.length capx00) l00 ∧ Ints W (.slice ax01 l01.length capx01) l01 ∧ Below w7.heap.size w7 W) := fun W hb => ⟨(BA0_7.out.on hb).1 0 _ rfl, (BA0_7.out.on hb).1 1 _ rfl, (BX0_7.out.on hb).1 0 _ rfl, (BX0_7.out.on hb).1 1 _ rfl, HX00.out.on (F7.out.trans (hb.mono F7.out.size)), HX01.out.on (F7.out.trans (hb.mono F7.out.size)), (OX00_7.out.on hb).1.ints, (OX01_7.out.on hb).1.ints, hb⟩
  go_wp2
  go_region_held3 (fun w' => w'.cell? ⟨w.heap.size, 0, none⟩ = some (.slice a00 l00.length cap00) ∧ w'.cell? ⟨w.heap.size, 1, none⟩ = some (.slice a01 l01.length cap01) ∧ w'.cell? ⟨w4.heap.size, 0, none⟩ = some (.slice ax00 l00.length capx00) ∧ w'.cell? ⟨w4.heap.size, 1, none⟩ = some (.slice ax01 l01.length capx01) ∧ Ints w' (.slice a00 l00.length cap00) l00 ∧ Ints w' (.slice a01 l01.length cap01) l01 ∧ Ints w' (.slice ax00 l00.length capx00) l00 ∧ Ints w' (.slice ax01 l01.length capx01) l01 ∧ Below w7.heap.size w7 w')
    (first | exact HR.out _ (Below.refl _ _).drew | exact HR.out _ (Below.refl _ _) | (go_split_ands; exact HR.out _ (btrans (by assumption) hb)))
    (first
      | (go_at_call 45; go_split_ands; refine (toTree_any _ _ l00 l01 _ (by assumption) (by assumption) hl600 hl601).mono ?_; rintro e wa ⟨vy00, vy01, K01, rfl, ho00, ho01, le01, lt01, hb⟩)
      | (go_at_call 47; go_split_ands; refine (eqTree_same _ _ _ _ l00 l01 _ (by assumption) (by assumption) ho00.ints ho01.ints hl900 hl901).mono ?_; rintro e w8 ⟨rfl, hb⟩))
  go_split_ands
  have hbE : Below w7.heap.size w7 w8 := by assumption
  have BA0_8 := Lib.hid (BA0_7.out.on hbE)
  have BX0_8 := Lib.hid (BX0_7.out.on hbE)
  have OW0_8 := Lib.hid (OW0_7.out.on hbE)
  have OX00_8 := Lib.hid (OX00_7.out.on hbE)
  have OX01_8 := Lib.hid (OX01_7.out.on hbE)
  have OG0_8 := Lib.hid (OG0_7.out.on hbE)
  have F8 := Lib.hid (F7.out.trans (hbE.mono F7.out.size))
  have hz7 : w7.heap.size ≤ w8.heap.size := hbE.size
  clear BA0_7 BX0_7 OW0_7 OX00_7 OX01_7 OG0_7 F7 HR hbE hb ho00 ho01 le01 lt01
  have cX00 : w8.cell? ⟨w4.heap.size, 0, none⟩ = some (.slice ax00 l00.length capx00) := BX0_8.out.1 0 _ rfl
  have cX01 : w8.cell? ⟨w4.heap.size, 1, none⟩ = some (.slice ax01 l01.length capx01) := BX0_8.out.1 1 _ rfl
  have cX0z := BX0_8.out.2.2
  go_wp2_with fail
  refine (markTree_any _ _ _ _ l00 l01 (1 : Int) _ OX00_8.out OX01_8.out dj00_01 hl900 hl901 (by omega) (by omega) (by omega)).mono ?_
  rintro e w9 ⟨rfl, hO, -⟩
  have BA0_9 := Lib.hid (BA0_8.out.keepO hO (by omega))
  have OW0_9 := Lib.hid (OW0_8.out.keepO hO (by omega))
  have OG0_9 := Lib.hid (OG0_8.out.keepO hO (by omega))
  have F9 := Lib.hid (Below.only F8.out hO (by omega) (Nat.le_refl _))
  have hz8 : w8.heap.size ≤ w9.heap.size := hO.size
  clear BA0_8 BX0_8 OW0_8 OX00_8 OX01_8 OG0_8 F8 hO cX00 cX01 cX0z
  have hk : decide ((((1 : Int) + l00.length) + l01.length) < 0) = false := by simp; omega
  go_wp2_with fail
  refine (eqIntS_same _ _ l'0 _ OG0_9.out.1.ints OW0_9.out.1.ints hl9'0).mono ?_
  rintro e w10 ⟨rfl, hb⟩
  have BA0_10 := Lib.hid (BA0_9.out.on hb)
  have OW0_10 := Lib.hid (OW0_9.out.on hb)
  have OG0_10 := Lib.hid (OG0_9.out.on hb)
  have F10 := Lib.hid (F9.out.trans (hb.mono F9.out.size))
  have hz9 : w9.heap.size ≤ w10.heap.size := hb.size
  clear BA0_9 OW0_9 OG0_9 F9 hb
  go_wp2_with fail
  refine (markIntS_any _ _ l'0 1 _ OG0_10.out.1 hl9'0 (by omega) (by omega)).mono ?_
  rintro e w11 ⟨rfl, ho, hg⟩
  have hO := Only.of_grown hg (fun k hk => ⟨(OG0_10.out.1.lt k hk).1, OG0_10.out.2 k hk⟩)
  have hG2 := OG0_10.out.2
  have BA0_11 := Lib.hid (BA0_10.out.keepO hO (by omega))
  have OW0_11 := Lib.hid (OW0_10.out.keepO hO (by omega))
  have F11 := Lib.hid (Below.only F10.out hO (by omega) (Nat.le_refl _))
  have hz10 : w10.heap.size ≤ w11.heap.size := hO.size
  have OG0_11 := Lib.hid (show OwnR _ _ w11 (vg0) (marks 1 l'0.length) from ⟨ho, hG2⟩)
  clear BA0_10 OW0_10 OG0_10 F10 hO ho hg hG2
  go_wp2_with fail
  refine (heldIntS_any _ 1 l'0.length _ OG0_11.out.1.ints hl9'0 (by omega) (by omega)).mono ?_
  rintro e w12 ⟨rfl, hb⟩
  replace hb := eq_below hb
  have BA0_12 := Lib.hid (BA0_11.out.on hb)
  have OW0_12 := Lib.hid (OW0_11.out.on hb)
  have OG0_12 := Lib.hid (OG0_11.out.on hb)
  have F12 := Lib.hid (F11.out.trans (hb.mono F11.out.size))
  have hz11 : w11.heap.size ≤ w12.heap.size := hb.size
  clear BA0_11 OW0_11 OG0_11 F11 hb
  have hk' : decide ((1 : Int) + l'0.length < 0) = false := by simp; omega
  have hq : ((1 : Int) + l'0.length != 1 + l'0.length) = false := by simp
  have cA00 : w12.cell? ⟨w.heap.size, 0, none⟩ = some (.slice a00 l00.length cap00) := BA0_12.out.1 0 _ rfl
  have cA01 : w12.cell? ⟨w.heap.size, 1, none⟩ = some (.slice a01 l01.length cap01) := BA0_12.out.1 1 _ rfl
  have cA0z := BA0_12.out.2.2
  go_wp2_with fail
  refine (toTree_any _ _ l00 l01 _ (HX00.out.on F12.out) (HX01.out.on F12.out) hl600 hl601).mono ?_
  rintro e w13 ⟨th00, th01, K01, rfl, ho00, ho01, le01, lt01, hb⟩
  have BA0_13 := Lib.hid (BA0_12.out.on hb)
  have OW0_13 := Lib.hid (OW0_12.out.on hb)
  have OG0_13 := Lib.hid (OG0_12.out.on hb)
  have F13 := Lib.hid (F12.out.trans (hb.mono F12.out.size))
  have hz12 : w12.heap.size ≤ w13.heap.size := hb.size
  replace ho01 := ho01.mono (le01)
  have OT00_13 := Lib.hid (show OwnR w12.heap.size w13.heap.size w13 (th00) l00 from ⟨ho00, fun k hk => (ho00.lt k hk).2⟩)
  have OT01_13 := Lib.hid (show OwnR w12.heap.size w13.heap.size w13 (th01) l01 from ⟨ho01, fun k hk => (ho01.lt k hk).2⟩)
  clear BA0_12 OW0_12 OG0_12 F12 hb ho00 ho01 le01 lt01 cA00 cA01 cA0z
  go_wp2_with fail
  refine (HI.out _ _ _ OT00_13.out.1.ints OT01_13.out.1.ints OT00_13.out.1.nilform OT01_13.out.1.nilform).mono ?_
  rintro e w14 ⟨vh0, rfl, ho0, hb⟩
  have BA0_14 := Lib.hid (BA0_13.out.on hb)
  have OW0_14 := Lib.hid (OW0_13.out.on hb)
  have OG0_14 := Lib.hid (OG0_13.out.on hb)
  have OT00_14 := Lib.hid (OT00_13.out.on hb)
  have OT01_14 := Lib.hid (OT01_13.out.on hb)
  have F14 := Lib.hid (F13.out.trans (hb.mono F13.out.size))
  have hz13 : w13.heap.size ≤ w14.heap.size := hb.size
  have OH0_14 := Lib.hid (show OwnR w13.heap.size w14.heap.size w14 (vh0) l'0 from ⟨ho0, fun k hk => (ho0.lt k hk).2⟩)
  clear BA0_13 OW0_13 OG0_13 OT00_13 OT01_13 F13 hb ho0
  go_wp2_with fail
  refine (eqIntS_same _ _ l'0 _ OH0_14.out.1.ints OW0_14.out.1.ints hl9'0).mono ?_
  rintro e w15 ⟨rfl, hb⟩
  have BA0_15 := Lib.hid (BA0_14.out.on hb)
  have OW0_15 := Lib.hid (OW0_14.out.on hb)
  have OG0_15 := Lib.hid (OG0_14.out.on hb)
  have OH0_15 := Lib.hid (OH0_14.out.on hb)
  have F15 := Lib.hid (F14.out.trans (hb.mono F14.out.size))
  have hz14 : w14.heap.size ≤ w15.heap.size := hb.size
  clear BA0_14 OW0_14 OG0_14 OH0_14 F14 hb
  go_wp2_with fail
  refine (heldIntS_any _ 1 l'0.length _ OG0_15.out.1.ints hl9'0 (by omega) (by omega)).mono ?_
  rintro e w16 ⟨rfl, hb⟩
  replace hb := eq_below hb
  have BA0_16 := Lib.hid (BA0_15.out.on hb)
  have OW0_16 := Lib.hid (OW0_15.out.on hb)
  have OG0_16 := Lib.hid (OG0_15.out.on hb)
  have F16 := Lib.hid (F15.out.trans (hb.mono F15.out.size))
  have hz15 : w15.heap.size ≤ w16.heap.size := hb.size
  clear BA0_15 OW0_15 OG0_15 F15 hb
  go_wp2
  go_ret
  exact ⟨rfl, F16.out⟩

set_option maxHeartbeats 1000000 in
set_option maxRecDepth 100000 in
theorem walk (v00 : Value) (l00 : List Int) (v01 : Value) (l01 : List Int) (w : World) (x00 : Ints w v00 l00) (x01 : Ints w v01 l01) : Calls Try.prog 12 #[.agg #[v00, v01]] w fun e w' => e = .returned (.bool true) ∧ Below w.heap.size w w' := by
  by_cases hb0 : 1048576 < (l00.length : Int) + (l01.length : Int)
  · skip
    obtain ⟨a00, cap00, rfl, -, hm00⟩ := x00.form
    have HX00 := Lib.hid x00
    obtain ⟨a01, cap01, rfl, -, hm01⟩ := x01.form
    have HX01 := Lib.hid x01
    clear  x00 x01 
    have BA0_0 := Lib.hid (show Box (w.heap.size) [.slice a00 l00.length cap00, .slice a01 l01.length cap01] (w.alloc (.cells #[.slice a00 l00.length cap00, .slice a01 l01.length cap01] 55)) from (Box.new w 55 [.slice a00 l00.length cap00, .slice a01 l01.length cap01]))
    have F0 := Lib.hid (show Below w.heap.size w (w.alloc (.cells #[.slice a00 l00.length cap00, .slice a01 l01.length cap01] 55)) from ((Below.refl _ w).alloc (Nat.le_refl _) (.cells #[.slice a00 l00.length cap00, .slice a01 l01.length cap01] 55)))
    go_enter Try.func12, Try.ntmps12
    have cc00 : (w.alloc (.cells #[.slice a00 l00.length cap00, .slice a01 l01.length cap01] 55)).cell? ⟨w.heap.size, 0, none⟩ = some (.slice a00 l00.length cap00) := BA0_0.out.1 0 _ rfl
    have cc01 : (w.alloc (.cells #[.slice a00 l00.length cap00, .slice a01 l01.length cap01] 55)).cell? ⟨w.heap.size, 1, none⟩ = some (.slice a01 l01.length cap01) := BA0_0.out.1 1 _ rfl
    go_wp2_with fail
    refine (szTree_over _ _ l00 l01 _ _ (HX00.out.on F0.out) (HX01.out.on F0.out) (by omega) (by omega) (by omega)).mono ?_
    rintro e w1 ⟨rfl, hb⟩
    have BA0_1 := Lib.hid (BA0_0.out.on hb)
    have F1 := Lib.hid (F0.out.trans (hb.mono F0.out.size))
    clear hb BA0_0 F0 cc00 cc01
    go_wp2
    go_ret
    exact ⟨rfl, F1.out⟩
  exact core v00 l00 v01 l01 w x00 x01 (sepR l00 l01) (Nat.le_trans (sepR_length _ _) (by omega)) (by omega)
    (fun W u00 u01 h00 h01 _ _ => specTreeSep u00 u01 l00 l01 W h00 h01 (by omega) (by omega))
    (fun W u00 u01 h00 h01 _ _ => implTreeSep u00 u01 l00 l01 W h00 h01 (by omega) (by omega))

set_option maxRecDepth 100000 in
theorem lifted (os : Os) (started : os.Started) (H : Type) (enc : TypeId × Value → H) :
    ReturnsInHanded {} Try.checked os 12 .any (Rows.fnExactTreeSeparatorsSpec.pre6 enc Try.prog Try.f12 Rows.fnExactTreeSeparatorsRow.domain false) (Rows.fnExactTreeSeparatorsSpec.post enc Try.prog Try.f12 false true false false) := by
  refine returnsInHanded_of_change (C := Try.checked) own started (by kernel_rfl) Try.func12
    (ChangeSpec.witness6 (enc := enc) (C := Try.checked) false ⟨#[], #[.agg #[.slice none 0 0, .slice none 0 0]], []⟩ 8 (by kernel_rfl) (by kernel_rfl) (by kernel_rfl) (by kernel_rfl)) ?_
  intro W base args ds gs before hval0 hW hcnd _
  have hval : ∀ (j : Nat) t v, Try.f12.params[j]? = some t → args[j]? = some v → Value.okWide Try.prog W .any base t v := hval0
  have hW' := hW
  obtain ⟨p, q, hA0, hV, rfl, hfz, hnd⟩ := hW
  have hA : DataW.TrodAll enc Try.prog W 0 (fun _ => true) true Try.f12.params.toList args.toList ds p := hA0
  rw [Try.params12] at hA hval
  obtain ⟨v0, vs0, d0, ds0, p0, q0, hargs, rfl, rfl, h0, r0⟩ := trodAll_cons hA
  obtain ⟨rfl, rfl, rfl⟩ := trodAll_nil r0
  obtain rfl : args = #[v0] := by cases args; simp_all
  obtain ⟨rfl, rfl⟩ := trodVars_none hV
  have k0 := h0
  obtain ⟨u00, l00, u01, l01, rfl, x00, x01⟩ := open_ss Try.underlying55 (by kernel_rfl) (by kernel_rfl) Try.underlying22 Try.underlying22 Try.underlying3 (by kernel_rfl) (hval 0 55 v0 rfl rfl) h0
  clear hA0 hval0
  refine (walk u00 l00 u01 l01 W x00 x01).mono fun e W' ⟨he, bel⟩ => ?_
  subst he
  exact ⟨_, rfl, _, _, _, [], _, [], hW', (trodAll_cons_mk (shut_bool Try.underlying4 _) trodAll_mk0), (trodAll_cons_mk (Below.trod laidOut (by kernel_rfl) (of_decide_eq_true (by kernel_rfl)) k0 bel (lt_of_trod k0)) trodAll_mk0), rfl, bel.frame _, fun h => by cases h⟩

theorem proved : Rows.FnExactTreeSeparatorsSaid :=
  OpenClaim.holds_of_wide 12 Try.f12 rfl rfl rfl rfl rfl rfl rfl ⟨rfl, rfl, rfl, rfl, rfl⟩ rfl rfl rfl rfl rfl (by kernel_rfl) Try.func12 closed
    (of_decide_eq_true (by kernel_rfl)) (by unfold Func.isWrapper; first | (rw [if_pos (by decide +kernel)]; kernel_rfl) | (rw [if_neg (by decide +kernel)]; exact ⟨rfl, rfl⟩))
    (fun os started H enc _ => lifted os started H enc)
#print axioms proved
end Go.Proofs.Ytcpchdnhhjhpaaa.fnExactTreeSeparators
