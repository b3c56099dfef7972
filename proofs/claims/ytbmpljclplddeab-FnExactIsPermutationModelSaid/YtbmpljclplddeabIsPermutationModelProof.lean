/- At every argument IsPermutationModel answers as its specification and writes into no argument. -/
import Derived.Test.YtbmpljclplddeabRows
import Derived.Test.YtbmpljclplddeabSh
import Derived.Test.YtbmpljclplddeabGl
import Derived.Test.YtbmpljclplddeabY16
import Derived.WalkKit
import Derived.Lib.LaidTab
import Derived.ProofKit
import Derived.LaidMore
import Derived.OpenShut
import Derived.ShutString
import Derived.ChangeOld
import Derived.Below
import Derived.Stop.Joined
import Derived.Stop.LaidErr
namespace Go.Proofs.Ytbmpljclplddeab.fnExactIsPermutationModel
open Go.ChangeShapes Go.WideShapes Go.ChangeAt Go.RowKit
open Go.ChangeMaps (open_string shut_string)
set_option linter.unusedVariables false

theorem own : ownKnob Try.prog.godebug = none := by kernel_rfl

theorem laidOut : laidOutB Try.prog = true := by kernel_rfl

set_option maxHeartbeats 4000000 in
set_option maxRecDepth 100000 in
theorem core (n0 : Int) (v0 : Value) (l0 : List Int) (v1 : Value) (l1 : List Int) (v2 : Value) (l2 : List Int) (w : World) (w0 : (Lit.int .i64 n0).wf = true) (x0 : Ints w v0 l0) (w1 : Ints w v1 l1) (w2 : Ints w v2 l2) (r0 : Bool) (hs0 : (l0.length : Int) ≤ 1048576) (hs1 : (l1.length : Int) ≤ 1048576) (hs2 : (l2.length : Int) ≤ 1048576)
    (hs : ∀ (W : World) (u0 : Value) (u1 : Value) (u2 : Value), Ints W u0 l0 → Ints W u1 l1 → Ints W u2 l2 → (u0 = .slice none 0 0 ∨ ∃ ad cap, u0 = .slice (some ad) l0.length cap) → (u1 = .slice none 0 0 ∨ ∃ ad cap, u1 = .slice (some ad) l1.length cap) → (u2 = .slice none 0 0 ∨ ∃ ad cap, u2 = .slice (some ad) l2.length cap) → Calls Try.prog 41 #[.agg #[.int .i64 n0, u0], u1, u2] W (fun e W' => e = .returned (.bool r0) ∧ Below W.heap.size W W'))
    (hi : ∀ (W : World) (u0 : Value) (u1 : Value) (u2 : Value), Ints W u0 l0 → Ints W u1 l1 → Ints W u2 l2 → (u0 = .slice none 0 0 ∨ ∃ ad cap, u0 = .slice (some ad) l0.length cap) → (u1 = .slice none 0 0 ∨ ∃ ad cap, u1 = .slice (some ad) l1.length cap) → (u2 = .slice none 0 0 ∨ ∃ ad cap, u2 = .slice (some ad) l2.length cap) → Calls Try.prog 43 #[.agg #[.int .i64 n0, u0], u1, u2] W (fun e W' => e = .returned (.bool r0) ∧ Below W.heap.size W W')) :
    Calls Try.prog 9 #[.agg #[.int .i64 n0, v0], v1, v2] w fun e w' => e = .returned (.bool true) ∧ Below w.heap.size w w' := by
  obtain ⟨a0, cap0, rfl, -, -⟩ := x0.form
  have HX0 := Lib.hid x0
  obtain ⟨a1, cap1, rfl, -, hm1⟩ := w1.form
  have HX1 := Lib.hid w1
  unfold maxLen at hm1
  obtain ⟨a2, cap2, rfl, -, hm2⟩ := w2.form
  have HX2 := Lib.hid w2
  unfold maxLen at hm2
  have HS := Lib.hid hs
  have HI := Lib.hid hi
  clear hs hi x0 w1 w2 
  have hne0 : (r0 != r0) = false := by simp
  have hp0 : (0 : Int) ≤ 1048576 - l0.length := by omega
  have hl90 : l0.length ≤ 100000000 := by omega
  have hl60 : l0.length ≤ 1048576 := by omega
  have hp1 : (0 : Int) ≤ 1048576 - l1.length := by omega
  have hl91 : l1.length ≤ 100000000 := by omega
  have hl61 : l1.length ≤ 1048576 := by omega
  have hp2 : (0 : Int) ≤ 1048576 - l2.length := by omega
  have hl92 : l2.length ≤ 100000000 := by omega
  have hl62 : l2.length ≤ 1048576 := by omega
  have hd1 : decide (1048576 < (l1.length : Int)) = false := by simp; omega
  have hd2 : decide (1048576 < (l2.length : Int)) = false := by simp; omega
  have BA0 := Lib.hid (BoxG.new w 39 n0 (.slice a0 l0.length cap0) ⟨_, _, _, rfl⟩)
  have F0 := Lib.hid ((Below.refl _ w).alloc (Nat.le_refl _) (.cells #[.int .i64 n0, .slice a0 l0.length cap0] 39))
  go_enter Try.func9, Try.ntmps9
  go_wp2_with fail
  refine (szGraph_fits n0 _ l0 _ _ (HX0.out.on F0.out) hs0 (by omega)).mono ?_
  rintro e w1 ⟨rfl, hb⟩
  have BA1 := Lib.hid (BA0.out.keep (below_grown hb) (by simp))
  have F1 := Lib.hid (F0.out.trans (hb.mono F0.out.size))
  clear BA0 F0 hb
  have hz0 : w.heap.size < w1.heap.size := BA1.out.2.2
  obtain ⟨cA0, cA1, cAz⟩ := BA1.out
  go_wp2_with fail
  refine (toGraph_any n0 _ l0 _ (HX0.out.on F1.out) hl60).mono ?_
  rintro e w2 ⟨s0, rfl, ho, hb⟩
  have BA2 := Lib.hid (BA1.out.keep (below_grown hb) (by simp))
  have F2 := Lib.hid (F1.out.trans (hb.mono F1.out.size))
  have hz1 : w1.heap.size ≤ w2.heap.size := hb.size
  have OT02 := Lib.hid ho
  clear BA1 F1 hb ho cA0 cA1 cAz
  go_wp2_with fail
  refine (toIntS_any _ l1 _ (HX1.out.on F2.out) hl61).mono ?_
  rintro e w3 ⟨s1, rfl, ho, hb⟩
  have BA3 := Lib.hid (BA2.out.keep (below_grown hb) (by simp))
  have OT03 := Lib.hid (OT02.out.keep (below_grown hb) (by simp))
  have F3 := Lib.hid (F2.out.trans (hb.mono F2.out.size))
  have hz2 : w2.heap.size ≤ w3.heap.size := hb.size
  have OT13 := Lib.hid ho
  clear BA2 OT02 F2 hb ho
  go_wp2_with fail
  refine (toIntS_any _ l2 _ (HX2.out.on F3.out) hl62).mono ?_
  rintro e w4 ⟨s2, rfl, ho, hb⟩
  have BA4 := Lib.hid (BA3.out.keep (below_grown hb) (by simp))
  have OT04 := Lib.hid (OT03.out.keep (below_grown hb) (by simp))
  have OT14 := Lib.hid (OT13.out.keep (below_grown hb) (by simp))
  have F4 := Lib.hid (F3.out.trans (hb.mono F3.out.size))
  have hz3 : w3.heap.size ≤ w4.heap.size := hb.size
  have OT24 := Lib.hid ho
  clear BA3 OT03 OT13 F3 hb ho
  go_wp2_with fail
  refine (HS.out _ _ _ _ OT04.out.ints OT14.out.ints OT24.out.ints OT04.out.nilform OT14.out.nilform OT24.out.nilform).mono ?_
  rintro e w5 ⟨rfl, hb⟩
  have BA5 := Lib.hid (BA4.out.keep (below_grown hb) (by simp))
  have OT05 := Lib.hid (OT04.out.keep (below_grown hb) (by simp))
  have OT15 := Lib.hid (OT14.out.keep (below_grown hb) (by simp))
  have OT25 := Lib.hid (OT24.out.keep (below_grown hb) (by simp))
  have F5 := Lib.hid (F4.out.trans (hb.mono F4.out.size))
  have hz4 : w4.heap.size ≤ w5.heap.size := hb.size
  clear BA4 OT04 OT14 OT24 F4 hb
  obtain ⟨cA0, cA1, cAz⟩ := BA5.out
  go_wp2_with fail
  refine (toGraph_any n0 _ l0 _ (HX0.out.on F5.out) hl60).mono ?_
  rintro e w6 ⟨vx0, rfl, ho, hb⟩
  have BA6 := Lib.hid (BA5.out.keep (below_grown hb) (by simp))
  have F6 := Lib.hid (F5.out.trans (hb.mono F5.out.size))
  have hz5 : w5.heap.size ≤ w6.heap.size := hb.size
  obtain ⟨ax0, capx0, rfl, -, -⟩ := ho.ints.form
  have X0L := Lib.hid ho.lt
  have OX06 := Lib.hid ho
  clear BA5 F5 hb ho cA0 cA1 cAz
  obtain ⟨w7, hw7⟩ : ∃ w7, w7 = w6.alloc (.cells #[.int .i64 n0, .slice ax0 l0.length capx0] 33) := ⟨_, rfl⟩
  have G7 : w6.grownBy w7 none := by rw [hw7]; exact grown_alloc _ _ _
  have hz6 : w6.heap.size < w7.heap.size := by rw [hw7]; simp
  have BA7 := Lib.hid (BA6.out.keep G7 (by simp))
  have OX07 := Lib.hid (OX06.out.keep G7 (by simp))
  have F7 := Lib.hid (show Below w.heap.size w w7 by rw [hw7]; exact F6.out.alloc F6.out.size _)
  have BX07 := Lib.hid (show BoxG w6.heap.size n0 (.slice ax0 l0.length capx0) w7 by rw [hw7]; exact BoxG.new w6 _ n0 _ ⟨_, _, _, rfl⟩)
  go_wp2_with fail
  rw [← hw7]
  clear hw7 G7 BA6 OX06 F6
  refine (toIntS_any _ l1 _ (HX1.out.on F7.out) hl61).mono ?_
  rintro e w8 ⟨vx1, rfl, ho, hb⟩
  have BA8 := Lib.hid (BA7.out.keep (below_grown hb) (by simp))
  have BX08 := Lib.hid (BX07.out.keep (below_grown hb) (by simp))
  have OX08 := Lib.hid (OX07.out.keep (below_grown hb) (by simp))
  have F8 := Lib.hid (F7.out.trans (hb.mono F7.out.size))
  have hz7 : w7.heap.size ≤ w8.heap.size := hb.size
  have X1L := Lib.hid ho.lt
  have OX18 := Lib.hid ho
  clear BA7 BX07 OX07 F7 hb ho
  go_wp2_with fail
  refine (toIntS_any _ l2 _ (HX2.out.on F8.out) hl62).mono ?_
  rintro e w9 ⟨vx2, rfl, ho, hb⟩
  have BA9 := Lib.hid (BA8.out.keep (below_grown hb) (by simp))
  have BX09 := Lib.hid (BX08.out.keep (below_grown hb) (by simp))
  have OX09 := Lib.hid (OX08.out.keep (below_grown hb) (by simp))
  have OX19 := Lib.hid (OX18.out.keep (below_grown hb) (by simp))
  have F9 := Lib.hid (F8.out.trans (hb.mono F8.out.size))
  have hz8 : w8.heap.size ≤ w9.heap.size := hb.size
  have X2L := Lib.hid ho.lt
  have OX29 := Lib.hid ho
  clear BA8 BX08 OX08 OX18 F8 hb ho
  obtain ⟨cX00, cX01, cX0z⟩ := BX09.out
  go_wp2_with fail
  refine (HI.out _ _ _ _ OX09.out.ints OX19.out.ints OX29.out.ints OX09.out.nilform OX19.out.nilform OX29.out.nilform).mono ?_
  rintro e w10 ⟨rfl, hb⟩
  have BA10 := Lib.hid (BA9.out.keep (below_grown hb) (by simp))
  have BX010 := Lib.hid (BX09.out.keep (below_grown hb) (by simp))
  have OX010 := Lib.hid (OX09.out.keep (below_grown hb) (by simp))
  have OX110 := Lib.hid (OX19.out.keep (below_grown hb) (by simp))
  have OX210 := Lib.hid (OX29.out.keep (below_grown hb) (by simp))
  have F10 := Lib.hid (F9.out.trans (hb.mono F9.out.size))
  have hz9 : w9.heap.size ≤ w10.heap.size := hb.size
  clear BA9 BX09 OX09 OX19 OX29 F9 hb cX00 cX01 cX0z
  have hzA : w.heap.size < w10.heap.size := BA10.out.2.2
  have HR : Hid (∀ W, Below w10.heap.size w10 W → W.cell? ⟨w.heap.size, 0, none⟩ = some (.int .i64 n0) ∧ W.cell? ⟨w.heap.size, 1, none⟩ = some (.slice a0 l0.length cap0) ∧
      W.cell? ⟨w6.heap.size, 0, none⟩ = some (.int .i64 n0) ∧ W.cell? ⟨w6.heap.size, 1, none⟩ = some (.slice ax0 l0.length capx0) ∧ Ints W (.slice a0 l0.length cap0) l0 ∧ Ints W (.slice ax0 l0.length capx0) l0 ∧ Below w10.heap.size w10 W) := fun W hb => by
    have k1 := BA10.out.keep (below_grown hb) (by simp)
    have k2 := BX010.out.keep (below_grown hb) (by simp)
    exact ⟨k1.1, k1.2.1, k2.1, k2.2.1, HX0.out.on (F10.out.trans (hb.mono F10.out.size)), (OX010.out.keep (below_grown hb) (by simp)).ints, hb⟩
  go_wp2
  go_region_held3 (fun w' => w'.cell? ⟨w.heap.size, 0, none⟩ = some (.int .i64 n0) ∧ w'.cell? ⟨w.heap.size, 1, none⟩ = some (.slice a0 l0.length cap0) ∧
      w'.cell? ⟨w6.heap.size, 0, none⟩ = some (.int .i64 n0) ∧ w'.cell? ⟨w6.heap.size, 1, none⟩ = some (.slice ax0 l0.length capx0) ∧ Ints w' (.slice a0 l0.length cap0) l0 ∧ Ints w' (.slice ax0 l0.length capx0) l0 ∧ Below w10.heap.size w10 w')
    (first | exact HR.out _ (Below.refl _ _).drew | exact HR.out _ (Below.refl _ _) | (go_split_ands; exact HR.out _ (btrans (by assumption) hb)))
    (first
      | (go_at_call 27; go_split_ands; refine (toGraph_any n0 _ l0 _ (by assumption) hl60).mono ?_; rintro e wa ⟨v3, rfl, ho, hb⟩)
      | (go_at_call 21; go_split_ands; refine (eqGraph_same n0 _ _ l0 _ (by assumption) ho.ints hl90).mono ?_; rintro e w11 ⟨rfl, hb⟩))
  go_split_ands
  have hbE : Below w10.heap.size w10 w11 := by assumption
  have BA11 := Lib.hid (BA10.out.keep (below_grown hbE) (by simp))
  have BX011 := Lib.hid (BX010.out.keep (below_grown hbE) (by simp))
  have OX011 := Lib.hid (OX010.out.keep (below_grown hbE) (by simp))
  have OX111 := Lib.hid (OX110.out.keep (below_grown hbE) (by simp))
  have OX211 := Lib.hid (OX210.out.keep (below_grown hbE) (by simp))
  have F11 := Lib.hid (F10.out.trans (hbE.mono F10.out.size))
  have hz10 : w10.heap.size ≤ w11.heap.size := hbE.size
  clear BA10 BX010 OX010 OX110 OX210 F10 HR hbE hb ho
  go_wp2_with fail
  refine (toIntS_any _ l1 _ (HX1.out.on F11.out) hl61).mono ?_
  rintro e w12 ⟨vy1, rfl, ho, hb⟩
  have BA12 := Lib.hid (BA11.out.keep (below_grown hb) (by simp))
  have BX012 := Lib.hid (BX011.out.keep (below_grown hb) (by simp))
  have OX012 := Lib.hid (OX011.out.keep (below_grown hb) (by simp))
  have OX112 := Lib.hid (OX111.out.keep (below_grown hb) (by simp))
  have OX212 := Lib.hid (OX211.out.keep (below_grown hb) (by simp))
  have F12 := Lib.hid (F11.out.trans (hb.mono F11.out.size))
  have hz11 : w11.heap.size ≤ w12.heap.size := hb.size
  have OT112 := Lib.hid ho
  clear BA11 BX011 OX011 OX111 OX211 F11 hb ho
  go_wp2_with fail
  refine (eqIntS_same _ _ l1 _ OX112.out.ints OT112.out.ints hl91).mono ?_
  rintro e w13 ⟨rfl, hb⟩
  have BA13 := Lib.hid (BA12.out.keep (below_grown hb) (by simp))
  have BX013 := Lib.hid (BX012.out.keep (below_grown hb) (by simp))
  have OX013 := Lib.hid (OX012.out.keep (below_grown hb) (by simp))
  have OX113 := Lib.hid (OX112.out.keep (below_grown hb) (by simp))
  have OX213 := Lib.hid (OX212.out.keep (below_grown hb) (by simp))
  have OT113 := Lib.hid (OT112.out.keep (below_grown hb) (by simp))
  have F13 := Lib.hid (F12.out.trans (hb.mono F12.out.size))
  have hz12 : w12.heap.size ≤ w13.heap.size := hb.size
  clear BA12 BX012 OX012 OX112 OX212 OT112 F12 hb
  go_wp2_with fail
  refine (toIntS_any _ l2 _ (HX2.out.on F13.out) hl62).mono ?_
  rintro e w14 ⟨vy2, rfl, ho, hb⟩
  have BA14 := Lib.hid (BA13.out.keep (below_grown hb) (by simp))
  have BX014 := Lib.hid (BX013.out.keep (below_grown hb) (by simp))
  have OX014 := Lib.hid (OX013.out.keep (below_grown hb) (by simp))
  have OX114 := Lib.hid (OX113.out.keep (below_grown hb) (by simp))
  have OX214 := Lib.hid (OX213.out.keep (below_grown hb) (by simp))
  have F14 := Lib.hid (F13.out.trans (hb.mono F13.out.size))
  have hz13 : w13.heap.size ≤ w14.heap.size := hb.size
  have OT214 := Lib.hid ho
  clear BA13 BX013 OX013 OX113 OX213 F13 hb ho
  go_wp2_with fail
  refine (eqIntS_same _ _ l2 _ OX214.out.ints OT214.out.ints hl92).mono ?_
  rintro e w15 ⟨rfl, hb⟩
  have BA15 := Lib.hid (BA14.out.keep (below_grown hb) (by simp))
  have BX015 := Lib.hid (BX014.out.keep (below_grown hb) (by simp))
  have OX015 := Lib.hid (OX014.out.keep (below_grown hb) (by simp))
  have OX115 := Lib.hid (OX114.out.keep (below_grown hb) (by simp))
  have OX215 := Lib.hid (OX214.out.keep (below_grown hb) (by simp))
  have OT215 := Lib.hid (OT214.out.keep (below_grown hb) (by simp))
  have F15 := Lib.hid (F14.out.trans (hb.mono F14.out.size))
  have hz14 : w14.heap.size ≤ w15.heap.size := hb.size
  clear BA14 BX014 OX014 OX114 OX214 OT214 F14 hb
  go_wp2
  go_ret
  exact ⟨rfl, F15.out⟩

set_option maxHeartbeats 1000000 in
set_option maxRecDepth 100000 in
theorem walk (n0 : Int) (v0 : Value) (l0 : List Int) (v1 : Value) (l1 : List Int) (v2 : Value) (l2 : List Int) (w : World) (w0 : (Lit.int .i64 n0).wf = true) (x0 : Ints w v0 l0) (w1 : Ints w v1 l1) (w2 : Ints w v2 l2) : Calls Try.prog 9 #[.agg #[.int .i64 n0, v0], v1, v2] w fun e w' => e = .returned (.bool true) ∧ Below w.heap.size w w' := by
  by_cases hb1 : 1048576 < (l1.length : Int)
  · obtain ⟨a, cap, rfl, -, hm⟩ := w1.form
    obtain ⟨a', cap', rfl, -, -⟩ := x0.form
    obtain ⟨a2', cap2', rfl, -, -⟩ := w2.form
    clear x0 w1 w2
    have hd : decide (1048576 < (l1.length : Int)) = true := by simp [hb1]
    go_enter Try.func9, Try.ntmps9
    go_wp2
    go_ret
    exact ⟨rfl, (Below.refl _ w).alloc (Nat.le_refl _) _⟩
  by_cases hb2 : 1048576 < (l2.length : Int)
  · obtain ⟨a, cap, rfl, -, hm⟩ := w2.form
    obtain ⟨a', cap', rfl, -, -⟩ := x0.form
    obtain ⟨a1', cap1', rfl, -, -⟩ := w1.form
    clear x0 w1 w2
    have hd : decide (1048576 < (l2.length : Int)) = true := by simp [hb2]
    have hd1 : decide (1048576 < (l1.length : Int)) = false := by simp; omega
    go_enter Try.func9, Try.ntmps9
    go_wp2
    go_ret
    exact ⟨rfl, (Below.refl _ w).alloc (Nat.le_refl _) _⟩
  by_cases hb0 : 1048576 < (l0.length : Int)
  · obtain ⟨a, cap, rfl, hc, hm⟩ := x0.form
    have HX := Lib.hid x0
    obtain ⟨a1', cap1', rfl, -, hm1⟩ := w1.form
    have hd1 : decide (1048576 < (l1.length : Int)) = false := by simp; omega
    obtain ⟨a2', cap2', rfl, -, hm2⟩ := w2.form
    have hd2 : decide (1048576 < (l2.length : Int)) = false := by simp; omega
    clear x0 w1 w2 
    go_enter Try.func9, Try.ntmps9
    go_wp2_with fail
    refine (szGraph_over n0 _ l0 _ _ (HX.out.alloc _) hb0 (by omega)).mono ?_
    rintro e w1 ⟨rfl, hb⟩
    have HB := Lib.hid hb
    clear hb
    go_wp2
    go_ret
    exact ⟨rfl, ((Below.refl _ w).alloc (Nat.le_refl _) _).trans (HB.out.mono (by simp))⟩
  exact core n0 v0 l0 v1 l1 v2 l2 w w0 x0 w1 w2 (decide (PmP n0 l0 l1 l2)) (by omega) (by omega) (by omega)
    (fun W u0 u1 u2 h0 h1 h2 _ _ _ => (specPM n0 u0 u1 u2 l0 l1 l2 W h0 h1 h2 (by omega) (by omega)).mono fun _ _ h => h.dec)
    (fun W u0 u1 u2 h0 h1 h2 _ _ _ => (implPM n0 u0 u1 u2 l0 l1 l2 W h0 h1 h2 (by omega) (by omega)).mono fun _ _ ⟨r, he, hr, hb⟩ => SaysB.dec ⟨r, he, hr.trans (pmI_iff n0 l0 l1 l2), hb⟩)

set_option maxRecDepth 100000 in
theorem lifted (os : Os) (started : os.Started) (H : Type) (enc : TypeId × Value → H) :
    ReturnsInHanded {} Try.checked os 9 .any (Rows.fnExactIsPermutationModelSpec.pre6 enc Try.prog Try.f9 Rows.fnExactIsPermutationModelRow.domain false) (Rows.fnExactIsPermutationModelSpec.post enc Try.prog Try.f9 false true false false) := by
  refine returnsInHanded_of_change (C := Try.checked) own started (by kernel_rfl) Try.func9
    (ChangeSpec.witness6 (enc := enc) (C := Try.checked) false ⟨#[], #[.agg #[.int .i64 0, .slice none 0 0], .slice none 0 0, .slice none 0 0], []⟩ 8 (by kernel_rfl) (by kernel_rfl) (by kernel_rfl) (by kernel_rfl)) ?_
  intro W base args ds gs before hval0 hW hcnd _
  have hval : ∀ (j : Nat) t v, Try.f9.params[j]? = some t → args[j]? = some v → Value.okWide Try.prog W .any base t v := hval0
  have hW' := hW
  obtain ⟨p, q, hA0, hV, rfl, hfz, hnd⟩ := hW
  have hA : DataW.TrodAll enc Try.prog W 0 (fun _ => true) true Try.f9.params.toList args.toList ds p := hA0
  rw [Try.params9] at hA hval
  obtain ⟨v0, vs0, d0, ds0, p0, q0, hargs, rfl, rfl, h0, r0⟩ := trodAll_cons hA
  obtain ⟨v1, vs1, d1, ds1, p1, q1, rfl, rfl, rfl, h1, r1⟩ := trodAll_cons r0
  obtain ⟨v2, vs2, d2, ds2, p2, q2, rfl, rfl, rfl, h2, r2⟩ := trodAll_cons r1
  obtain ⟨rfl, rfl, rfl⟩ := trodAll_nil r2
  obtain rfl : args = #[v0, v1, v2] := by cases args; simp_all
  obtain ⟨rfl, rfl⟩ := trodVars_none hV
  have k0 := h0
  obtain ⟨n0, u0, l0, rfl, w0, x0⟩ := open_graph Try.underlying39 (by kernel_rfl) (by kernel_rfl) Try.underlying3 Try.underlying22 Try.underlying3 (by kernel_rfl) (hval 0 39 v0 rfl rfl) h0
  have k1 := h1
  obtain ⟨l1, w1⟩ := open_ints_arg Try.underlying22 Try.underlying3 (by kernel_rfl) (hval 1 22 v1 rfl rfl) h1
  have k2 := h2
  obtain ⟨l2, w2⟩ := open_ints_arg Try.underlying22 Try.underlying3 (by kernel_rfl) (hval 2 22 v2 rfl rfl) h2
  clear hA0 hval0
  refine (walk n0 u0 l0 v1 l1 v2 l2 W w0 x0 w1 w2).mono fun e W' ⟨he, bel⟩ => ?_
  subst he
  exact ⟨_, rfl, _, _, _, [], _, [], hW', (trodAll_cons_mk (shut_bool Try.underlying4 _) trodAll_mk0), (trodAll_cons_mk (Below.trod laidOut (by kernel_rfl) (of_decide_eq_true (by kernel_rfl)) k0 bel (lt_of_trod k0)) (trodAll_cons_mk (Below.trod laidOut (by kernel_rfl) (of_decide_eq_true (by kernel_rfl)) k1 bel (lt_of_trod k1)) (trodAll_cons_mk (Below.trod laidOut (by kernel_rfl) (of_decide_eq_true (by kernel_rfl)) k2 bel (lt_of_trod k2)) trodAll_mk0))), rfl, bel.frame _, fun h => by cases h⟩

theorem proved : Rows.FnExactIsPermutationModelSaid :=
  OpenClaim.holds_of_wide 9 Try.f9 rfl rfl rfl rfl rfl rfl rfl ⟨rfl, rfl, rfl, rfl, rfl⟩ rfl rfl rfl rfl rfl (by kernel_rfl) Try.func9 (by kernel_rfl)
    (of_decide_eq_true (by kernel_rfl)) (by unfold Func.isWrapper; first | (rw [if_pos (by decide +kernel)]; kernel_rfl) | (rw [if_neg (by decide +kernel)]; exact ⟨rfl, rfl⟩))
    (fun os started H enc _ => lifted os started H enc)
#print axioms proved
end Go.Proofs.Ytbmpljclplddeab.fnExactIsPermutationModel
