/- At every argument ColorByOrder answers as its specification, writes into no argument, and its answer owns its memory. -/
import Derived.Test.YtpifgmmmmhenmabDoorCards
import Derived.Test.YtpifgmmmmhenmabDoorTie
import Derived.Test.YtpifgmmmmhenmabDoorSh
import Derived.Test.YtpifgmmmmhenmabDoorGl
import Derived.Test.YtpifgmmmmhenmabDoorSh
import Derived.Test.YtpifgmmmmhenmabDoorCy
import Derived.Test.YtpifgmmmmhenmabDoorCz
import Derived.WalkKit
import Derived.Lib.LaidTab
import Derived.ProofKit
import Derived.LaidMore
import Derived.OpenShut
import Derived.ShutString
import Derived.ChangeOld
import Derived.Below
import Derived.Stop.Joined
import Derived.Stop.LaidErr
namespace Go.Proofs.YtpifgmmmmhenmabDoor.fnExactColorByOrder
open Go.ChangeShapes Go.WideShapes Go.ChangeAt Go.RowKit
open Go.ChangeMaps (open_string shut_string)
set_option linter.unusedVariables false

theorem own : ownKnob Tryd.prog.godebug = none := by kernel_rfl

theorem laidOut : laidOutB Tryd.prog = true := by kernel_rfl

theorem gTabType : (Tryd.prog.globals[4]?).map (·.type) = some 118 := by kernel_rfl
theorem cellsT : Tryd.prog.cellsOf 118 = 64 := by kernel_rfl
theorem cellsU : Tryd.prog.cellsOf 5 = 1 := by kernel_rfl
theorem table {W : World} (h : laidMetH Tryd.prog Rows.fnExactColorByOrderRow.laid W) : TabT W := by
  rw [MakeChecks.laidMetH_plain _ _ _ (by kernel_rfl)] at h
  exact Lib.tabIs_of_head (rest := []) gT64 gTabType Tryd.underlying118 Tryd.underlying5 cellsU cellsT h.tail

set_option maxHeartbeats 4000000 in
set_option maxRecDepth 100000 in
theorem core (n0 : Int) (v0 : Value) (l0 : List Int) (v1 : Value) (l1 : List Int) (w : World) (w0 : (Lit.int .i64 n0).wf = true) (x0 : Ints w v0 l0) (w1 : Ints w v1 l1) (hL : laidMetH Tryd.prog Rows.fnExactColorByOrderRow.laid w) (l' : List Int) (hl' : l'.length ≤ 1048576) (hs0 : (l0.length : Int) ≤ 1048576) (hs1 : (l1.length : Int) ≤ 1048576)
    (hs : ∀ (W : World) (u0 : Value) (u1 : Value), Ints W u0 l0 → Ints W u1 l1 → (u0 = .slice none 0 0 ∨ ∃ ad cap, u0 = .slice (some ad) l0.length cap) → (u1 = .slice none 0 0 ∨ ∃ ad cap, u1 = .slice (some ad) l1.length cap) → Calls Tryd.prog 25 #[.agg #[.int .i64 n0, u0], u1] W (fun e W' => ∃ vr, e = .returned (vr) ∧ OwnI W.heap.size W' vr l' ∧ Below W.heap.size W W'))
    (hi : ∀ (W : World) (u0 : Value) (u1 : Value), Below w.heap.size w W → Ints W u0 l0 → Ints W u1 l1 → (u0 = .slice none 0 0 ∨ ∃ ad cap, u0 = .slice (some ad) l0.length cap) → (u1 = .slice none 0 0 ∨ ∃ ad cap, u1 = .slice (some ad) l1.length cap) → Calls Tryd.prog 27 #[.agg #[.int .i64 n0, u0], u1] W (fun e W' => ∃ vr, e = .returned (vr) ∧ OwnI W.heap.size W' vr l' ∧ Below W.heap.size W W')) :
    Calls Tryd.prog 5 #[.agg #[.int .i64 n0, v0], v1] w fun e w' => e = .returned (.bool true) ∧ Below w.heap.size w w' := by
  obtain ⟨a0, cap0, rfl, -, -⟩ := x0.form
  have HX0 := Lib.hid x0
  obtain ⟨a1, cap1, rfl, -, hm1⟩ := w1.form
  have HX1 := Lib.hid w1
  unfold maxLen at hm1
  have HS := Lib.hid hs
  have HI := Lib.hid hi
  clear hs hi hL x0 w1 
  have hp0 : (0 : Int) ≤ 1048576 - l0.length := by omega
  have hl90 : l0.length ≤ 100000000 := by omega
  have hl60 : l0.length ≤ 1048576 := by omega
  have hp1 : (0 : Int) ≤ 1048576 - l1.length := by omega
  have hl91 : l1.length ≤ 100000000 := by omega
  have hl61 : l1.length ≤ 1048576 := by omega
  have hd1 : decide (1048576 < (l1.length : Int)) = false := by simp; omega
  have hl9' : l'.length ≤ 100000000 := by omega
  have BA0 := Lib.hid (BoxG.new w 24 n0 (.slice a0 l0.length cap0) ⟨_, _, _, rfl⟩)
  have F0 := Lib.hid ((Below.refl _ w).alloc (Nat.le_refl _) (.cells #[.int .i64 n0, .slice a0 l0.length cap0] 24))
  go_enter Tryd.func5, Tryd.ntmps5
  go_wp2_with fail
  refine (szGraph_fits n0 _ l0 _ _ (HX0.out.on F0.out) hs0 (by omega)).mono ?_
  rintro e w1 ⟨rfl, hb⟩
  have BA1 := Lib.hid (BA0.out.keep (below_grown hb) (by simp))
  have F1 := Lib.hid (F0.out.trans (hb.mono F0.out.size))
  clear BA0 F0 hb
  have hz0 : w.heap.size < w1.heap.size := BA1.out.2.2
  obtain ⟨cA0, cA1, cAz⟩ := BA1.out
  go_wp2_with fail
  refine (toGraph_any n0 _ l0 _ (HX0.out.on F1.out) hl60).mono ?_
  rintro e w2 ⟨s0, rfl, ho, hb⟩
  have BA2 := Lib.hid (BA1.out.keep (below_grown hb) (by simp))
  have F2 := Lib.hid (F1.out.trans (hb.mono F1.out.size))
  have hz1 : w1.heap.size ≤ w2.heap.size := hb.size
  have OT02 := Lib.hid ho
  clear BA1 F1 hb ho cA0 cA1 cAz
  go_wp2_with fail
  refine (toIntS_any _ l1 _ (HX1.out.on F2.out) hl61).mono ?_
  rintro e w3 ⟨s1, rfl, ho, hb⟩
  have BA3 := Lib.hid (BA2.out.keep (below_grown hb) (by simp))
  have OT03 := Lib.hid (OT02.out.keep (below_grown hb) (by simp))
  have F3 := Lib.hid (F2.out.trans (hb.mono F2.out.size))
  have hz2 : w2.heap.size ≤ w3.heap.size := hb.size
  have OT13 := Lib.hid ho
  clear BA2 OT02 F2 hb ho
  go_wp2_with fail
  refine (HS.out _ _ _ OT03.out.ints OT13.out.ints OT03.out.nilform OT13.out.nilform).mono ?_
  rintro e w4 ⟨vw, rfl, ho, hb⟩
  have BA4 := Lib.hid (BA3.out.keep (below_grown hb) (by simp))
  have OT04 := Lib.hid (OT03.out.keep (below_grown hb) (by simp))
  have OT14 := Lib.hid (OT13.out.keep (below_grown hb) (by simp))
  have F4 := Lib.hid (F3.out.trans (hb.mono F3.out.size))
  have hz3 : w3.heap.size ≤ w4.heap.size := hb.size
  have WL := Lib.hid ho.lt
  have OW4 := Lib.hid ho
  clear BA3 OT03 OT13 F3 hb ho
  obtain ⟨cA0, cA1, cAz⟩ := BA4.out
  go_wp2_with fail
  refine (toGraph_any n0 _ l0 _ (HX0.out.on F4.out) hl60).mono ?_
  rintro e w5 ⟨vx0, rfl, ho, hb⟩
  have BA5 := Lib.hid (BA4.out.keep (below_grown hb) (by simp))
  have OW5 := Lib.hid (OW4.out.keep (below_grown hb) (by simp))
  have F5 := Lib.hid (F4.out.trans (hb.mono F4.out.size))
  have hz4 : w4.heap.size ≤ w5.heap.size := hb.size
  obtain ⟨ax0, capx0, rfl, -, -⟩ := ho.ints.form
  have X0L := Lib.hid ho.lt
  have OX05 := Lib.hid ho
  clear BA4 OW4 F4 hb ho cA0 cA1 cAz
  obtain ⟨w6, hw6⟩ : ∃ w6, w6 = w5.alloc (.cells #[.int .i64 n0, .slice ax0 l0.length capx0] 28) := ⟨_, rfl⟩
  have G6 : w5.grownBy w6 none := by rw [hw6]; exact grown_alloc _ _ _
  have hz5 : w5.heap.size < w6.heap.size := by rw [hw6]; simp
  have BA6 := Lib.hid (BA5.out.keep G6 (by simp))
  have OW6 := Lib.hid (OW5.out.keep G6 (by simp))
  have OX06 := Lib.hid (OX05.out.keep G6 (by simp))
  have F6 := Lib.hid (show Below w.heap.size w w6 by rw [hw6]; exact F5.out.alloc F5.out.size _)
  have BX06 := Lib.hid (show BoxG w5.heap.size n0 (.slice ax0 l0.length capx0) w6 by rw [hw6]; exact BoxG.new w5 _ n0 _ ⟨_, _, _, rfl⟩)
  go_wp2_with fail
  rw [← hw6]
  clear hw6 G6 BA5 OW5 OX05 F5
  refine (toIntS_any _ l1 _ (HX1.out.on F6.out) hl61).mono ?_
  rintro e w7 ⟨vx1, rfl, ho, hb⟩
  have BA7 := Lib.hid (BA6.out.keep (below_grown hb) (by simp))
  have BX07 := Lib.hid (BX06.out.keep (below_grown hb) (by simp))
  have OW7 := Lib.hid (OW6.out.keep (below_grown hb) (by simp))
  have OX07 := Lib.hid (OX06.out.keep (below_grown hb) (by simp))
  have F7 := Lib.hid (F6.out.trans (hb.mono F6.out.size))
  have hz6 : w6.heap.size ≤ w7.heap.size := hb.size
  have X1L := Lib.hid ho.lt
  have OX17 := Lib.hid ho
  clear BA6 BX06 OW6 OX06 F6 hb ho
  obtain ⟨cX00, cX01, cX0z⟩ := BX07.out
  go_wp2_with fail
  refine (HI.out _ _ _ F7.out OX07.out.ints OX17.out.ints OX07.out.nilform OX17.out.nilform).mono ?_
  rintro e w8 ⟨vg, rfl, ho, hb⟩
  have BA8 := Lib.hid (BA7.out.keep (below_grown hb) (by simp))
  have BX08 := Lib.hid (BX07.out.keep (below_grown hb) (by simp))
  have OW8 := Lib.hid (OW7.out.keep (below_grown hb) (by simp))
  have OX08 := Lib.hid (OX07.out.keep (below_grown hb) (by simp))
  have OX18 := Lib.hid (OX17.out.keep (below_grown hb) (by simp))
  have F8 := Lib.hid (F7.out.trans (hb.mono F7.out.size))
  have hz7 : w7.heap.size ≤ w8.heap.size := hb.size
  have GL := Lib.hid ho.lt
  have OG8 := Lib.hid ho
  clear BA7 BX07 OW7 OX07 OX17 F7 hb ho cX00 cX01 cX0z
  go_wp2_with fail
  refine (eqIntS_same _ _ l' _ OG8.out.ints OW8.out.ints hl9').mono ?_
  rintro e w9 ⟨rfl, hb⟩
  have BA9 := Lib.hid (BA8.out.keep (below_grown hb) (by simp))
  have BX09 := Lib.hid (BX08.out.keep (below_grown hb) (by simp))
  have OW9 := Lib.hid (OW8.out.keep (below_grown hb) (by simp))
  have OX09 := Lib.hid (OX08.out.keep (below_grown hb) (by simp))
  have OX19 := Lib.hid (OX18.out.keep (below_grown hb) (by simp))
  have OG9 := Lib.hid (OG8.out.keep (below_grown hb) (by simp))
  have F9 := Lib.hid (F8.out.trans (hb.mono F8.out.size))
  have hz8 : w8.heap.size ≤ w9.heap.size := hb.size
  clear BA8 BX08 OW8 OX08 OX18 OG8 F8 hb
  have hzA : w.heap.size < w9.heap.size := BA9.out.2.2
  have HR : Hid (∀ W, Below w9.heap.size w9 W → W.cell? ⟨w.heap.size, 0, none⟩ = some (.int .i64 n0) ∧ W.cell? ⟨w.heap.size, 1, none⟩ = some (.slice a0 l0.length cap0) ∧
      W.cell? ⟨w5.heap.size, 0, none⟩ = some (.int .i64 n0) ∧ W.cell? ⟨w5.heap.size, 1, none⟩ = some (.slice ax0 l0.length capx0) ∧ Ints W (.slice a0 l0.length cap0) l0 ∧ Ints W (.slice ax0 l0.length capx0) l0 ∧ Below w9.heap.size w9 W) := fun W hb => by
    have k1 := BA9.out.keep (below_grown hb) (by simp)
    have k2 := BX09.out.keep (below_grown hb) (by simp)
    exact ⟨k1.1, k1.2.1, k2.1, k2.2.1, HX0.out.on (F9.out.trans (hb.mono F9.out.size)), (OX09.out.keep (below_grown hb) (by simp)).ints, hb⟩
  go_wp2
  go_region_held3 (fun w' => w'.cell? ⟨w.heap.size, 0, none⟩ = some (.int .i64 n0) ∧ w'.cell? ⟨w.heap.size, 1, none⟩ = some (.slice a0 l0.length cap0) ∧
      w'.cell? ⟨w5.heap.size, 0, none⟩ = some (.int .i64 n0) ∧ w'.cell? ⟨w5.heap.size, 1, none⟩ = some (.slice ax0 l0.length capx0) ∧ Ints w' (.slice a0 l0.length cap0) l0 ∧ Ints w' (.slice ax0 l0.length capx0) l0 ∧ Below w9.heap.size w9 w')
    (first | exact HR.out _ (Below.refl _ _).drew | exact HR.out _ (Below.refl _ _) | (go_split_ands; exact HR.out _ (btrans (by assumption) hb)))
    (first
      | (go_at_call 11; go_split_ands; refine (toGraph_any n0 _ l0 _ (by assumption) hl60).mono ?_; rintro e wa ⟨v3, rfl, ho, hb⟩)
      | (go_at_call 14; go_split_ands; refine (eqGraph_same n0 _ _ l0 _ (by assumption) ho.ints hl90).mono ?_; rintro e w10 ⟨rfl, hb⟩))
  go_split_ands
  have hbE : Below w9.heap.size w9 w10 := by assumption
  have BA10 := Lib.hid (BA9.out.keep (below_grown hbE) (by simp))
  have BX010 := Lib.hid (BX09.out.keep (below_grown hbE) (by simp))
  have OW10 := Lib.hid (OW9.out.keep (below_grown hbE) (by simp))
  have OX010 := Lib.hid (OX09.out.keep (below_grown hbE) (by simp))
  have OX110 := Lib.hid (OX19.out.keep (below_grown hbE) (by simp))
  have OG10 := Lib.hid (OG9.out.keep (below_grown hbE) (by simp))
  have F10 := Lib.hid (F9.out.trans (hbE.mono F9.out.size))
  have hz9 : w9.heap.size ≤ w10.heap.size := hbE.size
  clear BA9 BX09 OW9 OX09 OX19 OG9 F9 HR hbE hb ho
  go_wp2_with fail
  refine (toIntS_any _ l1 _ (HX1.out.on F10.out) hl61).mono ?_
  rintro e w11 ⟨vy1, rfl, ho, hb⟩
  have BA11 := Lib.hid (BA10.out.keep (below_grown hb) (by simp))
  have BX011 := Lib.hid (BX010.out.keep (below_grown hb) (by simp))
  have OW11 := Lib.hid (OW10.out.keep (below_grown hb) (by simp))
  have OX011 := Lib.hid (OX010.out.keep (below_grown hb) (by simp))
  have OX111 := Lib.hid (OX110.out.keep (below_grown hb) (by simp))
  have OG11 := Lib.hid (OG10.out.keep (below_grown hb) (by simp))
  have F11 := Lib.hid (F10.out.trans (hb.mono F10.out.size))
  have hz10 : w10.heap.size ≤ w11.heap.size := hb.size
  have OT111 := Lib.hid ho
  clear BA10 BX010 OW10 OX010 OX110 OG10 F10 hb ho
  go_wp2_with fail
  refine (eqIntS_same _ _ l1 _ OX111.out.ints OT111.out.ints hl91).mono ?_
  rintro e w12 ⟨rfl, hb⟩
  have BA12 := Lib.hid (BA11.out.keep (below_grown hb) (by simp))
  have BX012 := Lib.hid (BX011.out.keep (below_grown hb) (by simp))
  have OW12 := Lib.hid (OW11.out.keep (below_grown hb) (by simp))
  have OX012 := Lib.hid (OX011.out.keep (below_grown hb) (by simp))
  have OX112 := Lib.hid (OX111.out.keep (below_grown hb) (by simp))
  have OG12 := Lib.hid (OG11.out.keep (below_grown hb) (by simp))
  have OT112 := Lib.hid (OT111.out.keep (below_grown hb) (by simp))
  have F12 := Lib.hid (F11.out.trans (hb.mono F11.out.size))
  have hz11 : w11.heap.size ≤ w12.heap.size := hb.size
  clear BA11 BX011 OW11 OX011 OX111 OG11 OT111 F11 hb
  obtain ⟨cX00, cX01, cX0z⟩ := BX012.out
  go_wp2_with fail
  refine (markGraph_any _ n0 _ l0 (1 : Int) _ OX012.out hl90 (by omega) (by omega)).mono ?_
  rintro e w13 ⟨rfl, ho, hg⟩
  have BA13 := Lib.hid (BA12.out.keep hg (fun h => by have := X0L.out _ h; omega))
  have OW13 := Lib.hid (OW12.out.keep hg (fun k hk j hj => by have := X0L.out _ hk; have := WL.out _ hj; omega))
  have OX113 := Lib.hid (OX112.out.keep hg (fun k hk j hj => by have := X0L.out _ hk; have := X1L.out _ hj; omega))
  have OG13 := Lib.hid (OG12.out.keep hg (fun k hk j hj => by have := X0L.out _ hk; have := GL.out _ hj; omega))
  have F13 := Lib.hid (F12.out.grown hg F12.out.size (fun k hk => by have := (X0L.out _ hk).1; omega))
  have hz12 : w12.heap.size ≤ w13.heap.size := hg.size
  clear BA12 BX012 OW12 OX012 OX112 OG12 F12 hg ho cX00 cX01 cX0z
  go_wp2_with fail
  refine (markIntS_any _ _ l1 (1 + (l0.length : Int)) _ OX113.out hl91 (by omega) (by omega)).mono ?_
  rintro e w14 ⟨rfl, ho, hg⟩
  have BA14 := Lib.hid (BA13.out.keep hg (fun h => by have := X1L.out _ h; omega))
  have OW14 := Lib.hid (OW13.out.keep hg (fun k hk j hj => by have := X1L.out _ hk; have := WL.out _ hj; omega))
  have OG14 := Lib.hid (OG13.out.keep hg (fun k hk j hj => by have := X1L.out _ hk; have := GL.out _ hj; omega))
  have F14 := Lib.hid (F13.out.grown hg F13.out.size (fun k hk => by have := (X1L.out _ hk).1; omega))
  have hz13 : w13.heap.size ≤ w14.heap.size := hg.size
  clear BA13 OW13 OX113 OG13 F13 hg ho
  have hk : decide ((1 + (l0.length : Int) + l1.length) < 0) = false := by simp; omega
  go_wp2_with fail
  refine (eqIntS_same _ _ l' _ OG14.out.ints OW14.out.ints hl9').mono ?_
  rintro e w15 ⟨rfl, hb⟩
  have BA15 := Lib.hid (BA14.out.keep (below_grown hb) (by simp))
  have OW15 := Lib.hid (OW14.out.keep (below_grown hb) (by simp))
  have OG15 := Lib.hid (OG14.out.keep (below_grown hb) (by simp))
  have F15 := Lib.hid (F14.out.trans (hb.mono F14.out.size))
  have hz14 : w14.heap.size ≤ w15.heap.size := hb.size
  clear BA14 OW14 OG14 F14 hb
  go_wp2_with fail
  refine (markIntS_any _ _ l' 1 _ OG15.out hl9' (by omega) (by omega)).mono ?_
  rintro e w16 ⟨rfl, ho, hg⟩
  have BA16 := Lib.hid (BA15.out.keep hg (fun h => by have := GL.out _ h; omega))
  have OW16 := Lib.hid (OW15.out.keep hg (fun k hk j hj => by have := GL.out _ hk; have := WL.out _ hj; omega))
  have F16 := Lib.hid (F15.out.grown hg F15.out.size (fun k hk => by have := (GL.out _ hk).1; omega))
  have OG16 := Lib.hid ho
  have hz15 : w15.heap.size ≤ w16.heap.size := hg.size
  clear BA15 OW15 OG15 F15 hg ho
  go_wp2_with fail
  refine (heldIntS_any _ 1 l'.length _ OG16.out.ints hl9' (by omega) (by omega)).mono ?_
  rintro e w17 ⟨rfl, hb⟩
  replace hb := eq_below hb
  have BA17 := Lib.hid (BA16.out.keep (below_grown hb) (by simp))
  have OW17 := Lib.hid (OW16.out.keep (below_grown hb) (by simp))
  have OG17 := Lib.hid (OG16.out.keep (below_grown hb) (by simp))
  have F17 := Lib.hid (F16.out.trans (hb.mono F16.out.size))
  have hz16 : w16.heap.size ≤ w17.heap.size := hb.size
  clear BA16 OW16 OG16 F16 hb
  have hk' : decide ((1 : Int) + l'.length < 0) = false := by simp; omega
  have hq : ((1 : Int) + l'.length != 1 + l'.length) = false := by simp
  obtain ⟨cA0, cA1, cAz⟩ := BA17.out
  go_wp2_with fail
  refine (toGraph_any n0 _ l0 _ (HX0.out.on F17.out) hl60).mono ?_
  rintro e w18 ⟨t0, rfl, ho, hb⟩
  have BA18 := Lib.hid (BA17.out.keep (below_grown hb) (by simp))
  have OW18 := Lib.hid (OW17.out.keep (below_grown hb) (by simp))
  have OG18 := Lib.hid (OG17.out.keep (below_grown hb) (by simp))
  have F18 := Lib.hid (F17.out.trans (hb.mono F17.out.size))
  have hz17 : w17.heap.size ≤ w18.heap.size := hb.size
  have OT018 := Lib.hid ho
  clear BA17 OW17 OG17 F17 hb ho cA0 cA1 cAz
  go_wp2_with fail
  refine (toIntS_any _ l1 _ (HX1.out.on F18.out) hl61).mono ?_
  rintro e w19 ⟨t1, rfl, ho, hb⟩
  have BA19 := Lib.hid (BA18.out.keep (below_grown hb) (by simp))
  have OW19 := Lib.hid (OW18.out.keep (below_grown hb) (by simp))
  have OG19 := Lib.hid (OG18.out.keep (below_grown hb) (by simp))
  have OT019 := Lib.hid (OT018.out.keep (below_grown hb) (by simp))
  have F19 := Lib.hid (F18.out.trans (hb.mono F18.out.size))
  have hz18 : w18.heap.size ≤ w19.heap.size := hb.size
  have OT119 := Lib.hid ho
  clear BA18 OW18 OG18 OT018 F18 hb ho
  go_wp2_with fail
  refine (HI.out _ _ _ F19.out OT019.out.ints OT119.out.ints OT019.out.nilform OT119.out.nilform).mono ?_
  rintro e w20 ⟨vh, rfl, ho, hb⟩
  have BA20 := Lib.hid (BA19.out.keep (below_grown hb) (by simp))
  have OW20 := Lib.hid (OW19.out.keep (below_grown hb) (by simp))
  have OG20 := Lib.hid (OG19.out.keep (below_grown hb) (by simp))
  have OT020 := Lib.hid (OT019.out.keep (below_grown hb) (by simp))
  have OT120 := Lib.hid (OT119.out.keep (below_grown hb) (by simp))
  have F20 := Lib.hid (F19.out.trans (hb.mono F19.out.size))
  have hz19 : w19.heap.size ≤ w20.heap.size := hb.size
  have HL := Lib.hid ho.lt
  have OH20 := Lib.hid ho
  clear BA19 OW19 OG19 OT019 OT119 F19 hb ho
  go_wp2_with fail
  refine (eqIntS_same _ _ l' _ OH20.out.ints OW20.out.ints hl9').mono ?_
  rintro e w21 ⟨rfl, hb⟩
  have BA21 := Lib.hid (BA20.out.keep (below_grown hb) (by simp))
  have OW21 := Lib.hid (OW20.out.keep (below_grown hb) (by simp))
  have OG21 := Lib.hid (OG20.out.keep (below_grown hb) (by simp))
  have OH21 := Lib.hid (OH20.out.keep (below_grown hb) (by simp))
  have F21 := Lib.hid (F20.out.trans (hb.mono F20.out.size))
  have hz20 : w20.heap.size ≤ w21.heap.size := hb.size
  clear BA20 OW20 OG20 OH20 F20 hb
  go_wp2_with fail
  refine (heldIntS_any _ 1 l'.length _ OG21.out.ints hl9' (by omega) (by omega)).mono ?_
  rintro e w22 ⟨rfl, hb⟩
  replace hb := eq_below hb
  have BA22 := Lib.hid (BA21.out.keep (below_grown hb) (by simp))
  have OW22 := Lib.hid (OW21.out.keep (below_grown hb) (by simp))
  have OG22 := Lib.hid (OG21.out.keep (below_grown hb) (by simp))
  have F22 := Lib.hid (F21.out.trans (hb.mono F21.out.size))
  have hz21 : w21.heap.size ≤ w22.heap.size := hb.size
  clear BA21 OW21 OG21 F21 hb
  go_wp2
  go_ret
  exact ⟨rfl, F22.out⟩

set_option maxHeartbeats 1000000 in
set_option maxRecDepth 100000 in
theorem walk (n0 : Int) (v0 : Value) (l0 : List Int) (v1 : Value) (l1 : List Int) (w : World) (w0 : (Lit.int .i64 n0).wf = true) (x0 : Ints w v0 l0) (w1 : Ints w v1 l1) (hL : laidMetH Tryd.prog Rows.fnExactColorByOrderRow.laid w) : Calls Tryd.prog 5 #[.agg #[.int .i64 n0, v0], v1] w fun e w' => e = .returned (.bool true) ∧ Below w.heap.size w w' := by
  have HT := Lib.hid (table hL)
  have HL := Lib.hid hL
  clear hL
  by_cases hb1 : 1048576 < (l1.length : Int)
  · obtain ⟨a, cap, rfl, -, hm⟩ := w1.form
    obtain ⟨a', cap', rfl, -, -⟩ := x0.form
    clear x0 w1
    have hd : decide (1048576 < (l1.length : Int)) = true := by simp [hb1]
    go_enter Tryd.func5, Tryd.ntmps5
    go_wp2
    go_ret
    exact ⟨rfl, (Below.refl _ w).alloc (Nat.le_refl _) _⟩
  by_cases hb0 : 1048576 < (l0.length : Int)
  · obtain ⟨a, cap, rfl, hc, hm⟩ := x0.form
    have HX := Lib.hid x0
    obtain ⟨a1', cap1', rfl, -, hm1⟩ := w1.form
    have hd1 : decide (1048576 < (l1.length : Int)) = false := by simp; omega
    clear x0 w1 
    go_enter Tryd.func5, Tryd.ntmps5
    go_wp2_with fail
    refine (szGraph_over n0 _ l0 _ _ (HX.out.alloc _) hb0 (by omega)).mono ?_
    rintro e w1 ⟨rfl, hb⟩
    have HB := Lib.hid hb
    clear hb
    go_wp2
    go_ret
    exact ⟨rfl, ((Below.refl _ w).alloc (Nat.le_refl _) _).trans (HB.out.mono (by simp))⟩
  have hs0' : l0.length ≤ 1048576 := by omega
  have hs1' : l1.length ≤ 1048576 := by omega
  exact core n0 v0 l0 v1 l1 w w0 x0 w1 HL.out (colR n0 l0 l1) (Nat.le_trans (colR_length _ _ _) (by omega)) (by omega) (by omega)
    (fun W u0 u1 h0 h1 _ _ => specColor n0 u0 u1 l0 l1 W h0 h1 hs1')
    (fun W u0 u1 hbel h0 h1 _ _ => implColor n0 u0 u1 l0 l1 W (HT.out.on hbel) h0 h1 hs1')

theorem door_met (os : Os) (args : Array Value) : laidMetH Tryd.prog Rows.fnExactColorByOrderRow.laid ((World.doorLaid Tryd.prog 400 os).forCall (fun _ _ => 0) ⟨#[], args, []⟩).memory :=
  laidMetH_of_parts3 (fuel := 8) (laidMet_of_run' 8 (by kernel_rfl) (by kernel_rfl)) (by kernel_rfl) (by kernel_rfl)

set_option maxRecDepth 100000 in
theorem lifted (os : Os) (started : os.Started) (H : Type) (enc : TypeId × Value → H) :
    ReturnsInHanded {} Tryd.checked os 5 .any (fun w args => (Rows.fnExactColorByOrderSpec.pre enc Tryd.prog Tryd.f5 [] false w args ∧ laidMetH Tryd.prog Rows.fnExactColorByOrderRow.laid w) ∧ sizedMet enc Tryd.prog Tryd.f5 (OpenSpec.ofChange Rows.fnExactColorByOrderSpec) false w args)
      (Rows.fnExactColorByOrderSpec.post enc Tryd.prog Tryd.f5 false true false false) := by
  refine returnsInHanded_of_change_and (C := Tryd.checked) (X := fun w _ => laidMetH Tryd.prog Rows.fnExactColorByOrderRow.laid w) (fun _ _ _ hh h => h.of_heap hh) own started (by kernel_rfl) Tryd.func5
    (ChangeSpec.witness_shaped (enc := enc) (C := Tryd.checked) (os := os) (X := fun w _ => laidMetH Tryd.prog Rows.fnExactColorByOrderRow.laid w) false (World.doorLaid Tryd.prog 400 os) #[.agg #[.int .i64 0, .slice none 0 0], .slice none 0 0] 8 rfl (World.shaped_of_RefB (by kernel_rfl) (by kernel_rfl)) (by kernel_rfl) (by kernel_rfl) (by kernel_rfl) (door_met os _)) ?_
  intro W base args ds gs before hval0 hW _ _ hL _
  have hval : ∀ (j : Nat) t v, Tryd.f5.params[j]? = some t → args[j]? = some v → Value.okWide Tryd.prog W .any base t v := hval0
  have hW' := hW
  obtain ⟨p, q, hA0, hV, rfl, hfz, hnd⟩ := hW
  have hA : DataW.TrodAll enc Tryd.prog W 0 (fun _ => true) true Tryd.f5.params.toList args.toList ds p := hA0
  rw [Tryd.params5] at hA hval
  obtain ⟨v0, vs0, d0, ds0, p0, q0, hargs, rfl, rfl, h0, r0⟩ := trodAll_cons hA
  obtain ⟨v1, vs1, d1, ds1, p1, q1, rfl, rfl, rfl, h1, r1⟩ := trodAll_cons r0
  obtain ⟨rfl, rfl, rfl⟩ := trodAll_nil r1
  obtain rfl : args = #[v0, v1] := by cases args; simp_all
  obtain ⟨rfl, rfl⟩ := trodVars_none hV
  have k0 := h0
  obtain ⟨n0, u0, l0, rfl, w0, x0⟩ := open_graph Tryd.underlying24 (by kernel_rfl) (by kernel_rfl) Tryd.underlying3 Tryd.underlying22 Tryd.underlying3 (by kernel_rfl) (hval 0 24 v0 rfl rfl) h0
  have k1 := h1
  obtain ⟨l1, w1⟩ := open_ints_arg Tryd.underlying22 Tryd.underlying3 (by kernel_rfl) (hval 1 22 v1 rfl rfl) h1
  clear hA0 hval0
  refine (walk n0 u0 l0 v1 l1 W w0 x0 w1 hL).mono fun e W' ⟨he, bel⟩ => ?_
  subst he
  exact ⟨_, rfl, _, _, _, [], _, [], hW', (trodAll_cons_mk (shut_bool Tryd.underlying4 _) trodAll_mk0), (trodAll_cons_mk (Below.trod laidOut (by kernel_rfl) (of_decide_eq_true (by kernel_rfl)) k0 bel (lt_of_trod k0)) (trodAll_cons_mk (Below.trod laidOut (by kernel_rfl) (of_decide_eq_true (by kernel_rfl)) k1 bel (lt_of_trod k1)) trodAll_mk0)), rfl, bel.frame _, fun h => by cases h⟩


theorem said : Rows.FnExactColorByOrderSaid :=
  OpenClaim.holds_of_wide 5 Tryd.f5 rfl rfl rfl rfl rfl rfl rfl ⟨rfl, rfl, rfl, rfl, rfl⟩ rfl rfl rfl rfl rfl (by kernel_rfl) Tryd.func5 (by kernel_rfl)
    (of_decide_eq_true (by kernel_rfl)) (by unfold Func.isWrapper; first | (rw [if_pos (by decide +kernel)]; kernel_rfl) | (rw [if_neg (by decide +kernel)]; exact ⟨rfl, rfl⟩))
    (fun os started H enc _ => lifted os started H enc)

theorem plain (f : FuncId) (fn : Func) (hf : Tryd.pinned.checked.prog.funcNamed "loop.example/g02081/laws.FnExactColorByOrder" = some f) (hfn : Tryd.pinned.checked.prog.funcs[f]? = some fn) :
    true = Tryd.pinned.checked.prog.looks [] ∧ ∀ (j : Nat) t, fn.params[j]? = some t → Tryd.pinned.checked.prog.wantsStandIn t = false := by
  obtain rfl : f = 5 := Option.some.inj ((show Tryd.prog.funcNamed "loop.example/g02081/laws.FnExactColorByOrder" = some 5 by kernel_rfl).symm.trans hf) |>.symm
  obtain rfl : fn = Tryd.f5 := (Option.some.inj (Tryd.func5.symm.trans hfn)).symm
  refine ⟨by kernel_rfl, fun j t ht => ?_⟩
  rw [Tryd.params5] at ht
  have hm : t ∈ [24, 22] := by simpa using Array.mem_of_getElem? ht
  have hall : ([24, 22].all fun u => !Tryd.prog.wantsStandIn u) = true := by kernel_rfl
  exact (show Tryd.prog.wantsStandIn t = false by simpa using List.all_eq_true.1 hall t hm)

theorem card : Rows.FnExactColorByOrderCardSaid :=
  Claim7.holds_tied_plain_at .later [] _ _ _ _ said (fun _ h => by cases h) (by kernel_rfl) (fun _ h => by cases h) fnExactColorByOrder_row_tie rfl ⟨rfl, rfl⟩ (by kernel_rfl) rfl plain (by kernel_rfl)
#print axioms card
end Go.Proofs.YtpifgmmmmhenmabDoor.fnExactColorByOrder
