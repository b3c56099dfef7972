/- For every graph and every number, InducedOn answers as its specification does, writes into no argument, and its answer owns its memory. -/
import Derived.Test.YtkadihfbbmhebabRows
import Derived.Test.YtkadihfbbmhebabSh
import Derived.Test.YtkadihfbbmhebabI3
import Derived.Test.YtkadihfbbmhebabGl
import Derived.WalkKit
import Derived.Lib.LaidTab
import Derived.ProofKit
import Derived.LaidMore
import Derived.OpenShut
import Derived.ShutString
import Derived.ChangeOld
import Derived.Below
import Derived.Stop.Joined
import Derived.Stop.LaidErr
namespace Go.Proofs.Ytkadihfbbmhebab.fnExactInducedOn
open Go.ChangeShapes Go.WideShapes Go.ChangeAt Go.RowKit
open Go.ChangeMaps (open_string shut_string)
set_option linter.unusedVariables false

theorem own : ownKnob Try.prog.godebug = none := by kernel_rfl

theorem laidOut : laidOutB Try.prog = true := by kernel_rfl

set_option maxHeartbeats 4000000 in
set_option maxRecDepth 100000 in
theorem core (n0 : Int) (v0 : Value) (l0 : List Int) (a1 : Int) (w : World) (w0 : (Lit.int .i64 n0).wf = true) (x0 : Ints w v0 l0) (w1 : (Lit.int .i64 a1).wf = true) (n' : Int) (l' : List Int) (r1 : Bool) (hl' : l'.length ≤ 1048576) (hs0 : (l0.length : Int) ≤ 1048576)
    (hs : ∀ (W : World) (u0 : Value), Ints W u0 l0 → (u0 = .slice none 0 0 ∨ ∃ ad cap, u0 = .slice (some ad) l0.length cap) → Calls Try.prog 36 #[.agg #[.int .i64 n0, u0], .int .i64 a1] W (fun e W' => ∃ vr, e = .returned (.tuple #[.agg #[.int .i64 n', vr], .bool r1]) ∧ OwnI W.heap.size W' vr l' ∧ Below W.heap.size W W'))
    (hi : ∀ (W : World) (u0 : Value), Ints W u0 l0 → (u0 = .slice none 0 0 ∨ ∃ ad cap, u0 = .slice (some ad) l0.length cap) → Calls Try.prog 37 #[.agg #[.int .i64 n0, u0], .int .i64 a1] W (fun e W' => ∃ vr, e = .returned (.tuple #[.agg #[.int .i64 n', vr], .bool r1]) ∧ OwnI W.heap.size W' vr l' ∧ Below W.heap.size W W')) :
    Calls Try.prog 11 #[.agg #[.int .i64 n0, v0], .int .i64 a1] w fun e w' => e = .returned (.bool true) ∧ Below w.heap.size w w' := by
  obtain ⟨a0, cap0, rfl, -, -⟩ := x0.form
  have HX0 := Lib.hid x0
  have HS := Lib.hid hs
  have HI := Lib.hid hi
  clear hs hi x0 w0
  have hne1 : (r1 != r1) = false := by simp
  have hp0 : (0 : Int) ≤ 1048576 - l0.length := by omega
  have hl90 : l0.length ≤ 100000000 := by omega
  have hl60 : l0.length ≤ 1048576 := by omega
  have hl9' : l'.length ≤ 100000000 := by omega
  have BA0 := Lib.hid (BoxG.new w 24 n0 (.slice a0 l0.length cap0) ⟨_, _, _, rfl⟩)
  have F0 := Lib.hid ((Below.refl _ w).alloc (Nat.le_refl _) (.cells #[.int .i64 n0, .slice a0 l0.length cap0] 24))
  go_enter Try.func11, Try.ntmps11
  go_wp2_with fail
  refine (szGraph_fits n0 _ l0 _ _ (HX0.out.on F0.out) hs0 (by omega)).mono ?_
  rintro e w1 ⟨rfl, hb⟩
  have BA1 := Lib.hid (BA0.out.keep (below_grown hb) (by simp))
  have F1 := Lib.hid (F0.out.trans (hb.mono F0.out.size))
  clear BA0 F0 hb
  have hz0 : w.heap.size < w1.heap.size := BA1.out.2.2
  obtain ⟨cA0, cA1, cAz⟩ := BA1.out
  go_wp2_with fail
  refine (toGraph_any n0 _ l0 _ (HX0.out.on F1.out) hl60).mono ?_
  rintro e w2 ⟨s0, rfl, ho, hb⟩
  have BA2 := Lib.hid (BA1.out.keep (below_grown hb) (by simp))
  have F2 := Lib.hid (F1.out.trans (hb.mono F1.out.size))
  have hz1 : w1.heap.size ≤ w2.heap.size := hb.size
  have OT02 := Lib.hid ho
  clear BA1 F1 hb ho cA0 cA1 cAz
  go_wp2_with fail
  refine (HS.out _ _ OT02.out.ints OT02.out.nilform).mono ?_
  rintro e w3 ⟨vw, rfl, ho, hb⟩
  have BA3 := Lib.hid (BA2.out.keep (below_grown hb) (by simp))
  have OT03 := Lib.hid (OT02.out.keep (below_grown hb) (by simp))
  have F3 := Lib.hid (F2.out.trans (hb.mono F2.out.size))
  have hz2 : w2.heap.size ≤ w3.heap.size := hb.size
  obtain ⟨aW, capW, rfl, -, -⟩ := ho.ints.form
  have WL := Lib.hid ho.lt
  have OW3 := Lib.hid ho
  clear BA2 OT02 F2 hb ho
  obtain ⟨w4, hw4⟩ : ∃ w4, w4 = w3.alloc (.cells #[.int .i64 n', .slice aW l'.length capW] 27) := ⟨_, rfl⟩
  have G4 : w3.grownBy w4 none := by rw [hw4]; exact grown_alloc _ _ _
  have hz3 : w3.heap.size < w4.heap.size := by rw [hw4]; simp
  obtain ⟨cA0, cA1, cAz⟩ := BA3.out
  have BA4 := Lib.hid (BA3.out.keep G4 (by simp))
  have OW4 := Lib.hid (OW3.out.keep G4 (by simp))
  have F4 := Lib.hid (show Below w.heap.size w w4 by rw [hw4]; exact F3.out.alloc F3.out.size _)
  have BW4 := Lib.hid (show BoxG w3.heap.size n' (.slice aW l'.length capW) w4 by rw [hw4]; exact BoxG.new w3 _ n' _ ⟨_, _, _, rfl⟩)
  go_wp2_with fail
  rw [← hw4]
  clear hw4 G4 BA3 OW3 F3 cA0 cA1 cAz
  refine (toGraph_any n0 _ l0 _ (HX0.out.on F4.out) hl60).mono ?_
  rintro e w5 ⟨vx0, rfl, ho, hb⟩
  have BA5 := Lib.hid (BA4.out.keep (below_grown hb) (by simp))
  have BW5 := Lib.hid (BW4.out.keep (below_grown hb) (by simp))
  have OW5 := Lib.hid (OW4.out.keep (below_grown hb) (by simp))
  have F5 := Lib.hid (F4.out.trans (hb.mono F4.out.size))
  have hz4 : w4.heap.size ≤ w5.heap.size := hb.size
  obtain ⟨ax0, capx0, rfl, -, -⟩ := ho.ints.form
  have X0L := Lib.hid ho.lt
  have OX05 := Lib.hid ho
  clear BA4 BW4 OW4 F4 hb ho
  obtain ⟨w6, hw6⟩ : ∃ w6, w6 = w5.alloc (.cells #[.int .i64 n0, .slice ax0 l0.length capx0] 27) := ⟨_, rfl⟩
  have G6 : w5.grownBy w6 none := by rw [hw6]; exact grown_alloc _ _ _
  have hz5 : w5.heap.size < w6.heap.size := by rw [hw6]; simp
  have BA6 := Lib.hid (BA5.out.keep G6 (by simp))
  have BW6 := Lib.hid (BW5.out.keep G6 (by simp))
  have OW6 := Lib.hid (OW5.out.keep G6 (by simp))
  have OX06 := Lib.hid (OX05.out.keep G6 (by simp))
  have F6 := Lib.hid (show Below w.heap.size w w6 by rw [hw6]; exact F5.out.alloc F5.out.size _)
  have BX06 := Lib.hid (show BoxG w5.heap.size n0 (.slice ax0 l0.length capx0) w6 by rw [hw6]; exact BoxG.new w5 _ n0 _ ⟨_, _, _, rfl⟩)
  go_wp2_with fail
  rw [← hw6]
  clear hw6 G6 BA5 BW5 OW5 OX05 F5
  refine (HI.out _ _ OX06.out.ints OX06.out.nilform).mono ?_
  rintro e w7 ⟨vg, rfl, ho, hb⟩
  have BA7 := Lib.hid (BA6.out.keep (below_grown hb) (by simp))
  have BW7 := Lib.hid (BW6.out.keep (below_grown hb) (by simp))
  have BX07 := Lib.hid (BX06.out.keep (below_grown hb) (by simp))
  have OW7 := Lib.hid (OW6.out.keep (below_grown hb) (by simp))
  have OX07 := Lib.hid (OX06.out.keep (below_grown hb) (by simp))
  have F7 := Lib.hid (F6.out.trans (hb.mono F6.out.size))
  have hz6 : w6.heap.size ≤ w7.heap.size := hb.size
  obtain ⟨aG, capG, rfl, -, -⟩ := ho.ints.form
  have GL := Lib.hid ho.lt
  have OG7 := Lib.hid ho
  clear BA6 BW6 BX06 OW6 OX06 F6 hb ho
  obtain ⟨w8, hw8⟩ : ∃ w8, w8 = w7.alloc (.cells #[.int .i64 n', .slice aG l'.length capG] 27) := ⟨_, rfl⟩
  have G8 : w7.grownBy w8 none := by rw [hw8]; exact grown_alloc _ _ _
  have hz7 : w7.heap.size < w8.heap.size := by rw [hw8]; simp
  obtain ⟨cW0, cW1, cWz⟩ := BW7.out
  have BA8 := Lib.hid (BA7.out.keep G8 (by simp))
  have BW8 := Lib.hid (BW7.out.keep G8 (by simp))
  have BX08 := Lib.hid (BX07.out.keep G8 (by simp))
  have OW8 := Lib.hid (OW7.out.keep G8 (by simp))
  have OX08 := Lib.hid (OX07.out.keep G8 (by simp))
  have OG8 := Lib.hid (OG7.out.keep G8 (by simp))
  have F8 := Lib.hid (show Below w.heap.size w w8 by rw [hw8]; exact F7.out.alloc F7.out.size _)
  have BG8 := Lib.hid (show BoxG w7.heap.size n' (.slice aG l'.length capG) w8 by rw [hw8]; exact BoxG.new w7 _ n' _ ⟨_, _, _, rfl⟩)
  go_wp2_with fail
  rw [← hw8]
  clear hw8 G8 BA7 BW7 BX07 OW7 OX07 OG7 F7 cW0 cW1 cWz
  refine (eqGraph_same n' _ _ l' _ OG8.out.ints OW8.out.ints hl9').mono ?_
  rintro e w9 ⟨rfl, hb⟩
  have BA9 := Lib.hid (BA8.out.keep (below_grown hb) (by simp))
  have BW9 := Lib.hid (BW8.out.keep (below_grown hb) (by simp))
  have BX09 := Lib.hid (BX08.out.keep (below_grown hb) (by simp))
  have BG9 := Lib.hid (BG8.out.keep (below_grown hb) (by simp))
  have OW9 := Lib.hid (OW8.out.keep (below_grown hb) (by simp))
  have OX09 := Lib.hid (OX08.out.keep (below_grown hb) (by simp))
  have OG9 := Lib.hid (OG8.out.keep (below_grown hb) (by simp))
  have F9 := Lib.hid (F8.out.trans (hb.mono F8.out.size))
  have hz8 : w8.heap.size ≤ w9.heap.size := hb.size
  clear BA8 BW8 BX08 BG8 OW8 OX08 OG8 F8 hb
  have hzA : w.heap.size < w9.heap.size := BA9.out.2.2
  have HR : Hid (∀ W, Below w9.heap.size w9 W → W.cell? ⟨w.heap.size, 0, none⟩ = some (.int .i64 n0) ∧ W.cell? ⟨w.heap.size, 1, none⟩ = some (.slice a0 l0.length cap0) ∧
      W.cell? ⟨w5.heap.size, 0, none⟩ = some (.int .i64 n0) ∧ W.cell? ⟨w5.heap.size, 1, none⟩ = some (.slice ax0 l0.length capx0) ∧ Ints W (.slice a0 l0.length cap0) l0 ∧ Ints W (.slice ax0 l0.length capx0) l0 ∧ Below w9.heap.size w9 W) := fun W hb => by
    have k1 := BA9.out.keep (below_grown hb) (by simp)
    have k2 := BX09.out.keep (below_grown hb) (by simp)
    exact ⟨k1.1, k1.2.1, k2.1, k2.2.1, HX0.out.on (F9.out.trans (hb.mono F9.out.size)), (OX09.out.keep (below_grown hb) (by simp)).ints, hb⟩
  go_wp2
  go_region_held3 (fun w' => w'.cell? ⟨w.heap.size, 0, none⟩ = some (.int .i64 n0) ∧ w'.cell? ⟨w.heap.size, 1, none⟩ = some (.slice a0 l0.length cap0) ∧
      w'.cell? ⟨w5.heap.size, 0, none⟩ = some (.int .i64 n0) ∧ w'.cell? ⟨w5.heap.size, 1, none⟩ = some (.slice ax0 l0.length capx0) ∧ Ints w' (.slice a0 l0.length cap0) l0 ∧ Ints w' (.slice ax0 l0.length capx0) l0 ∧ Below w9.heap.size w9 w')
    (first | exact HR.out _ (Below.refl _ _).drew | exact HR.out _ (Below.refl _ _) | (go_split_ands; exact HR.out _ (btrans (by assumption) hb)))
    (first
      | (go_at_call 14; go_split_ands; refine (toGraph_any n0 _ l0 _ (by assumption) hl60).mono ?_; rintro e wa ⟨v3, rfl, ho, hb⟩)
      | (go_at_call 16; go_split_ands; refine (eqGraph_same n0 _ _ l0 _ (by assumption) ho.ints hl90).mono ?_; rintro e w10 ⟨rfl, hb⟩))
  go_split_ands
  have hbE : Below w9.heap.size w9 w10 := by assumption
  have BA10 := Lib.hid (BA9.out.keep (below_grown hbE) (by simp))
  have BW10 := Lib.hid (BW9.out.keep (below_grown hbE) (by simp))
  have BX010 := Lib.hid (BX09.out.keep (below_grown hbE) (by simp))
  have BG10 := Lib.hid (BG9.out.keep (below_grown hbE) (by simp))
  have OW10 := Lib.hid (OW9.out.keep (below_grown hbE) (by simp))
  have OX010 := Lib.hid (OX09.out.keep (below_grown hbE) (by simp))
  have OG10 := Lib.hid (OG9.out.keep (below_grown hbE) (by simp))
  have F10 := Lib.hid (F9.out.trans (hbE.mono F9.out.size))
  have hz9 : w9.heap.size ≤ w10.heap.size := hbE.size
  clear BA9 BW9 BX09 BG9 OW9 OX09 OG9 F9 HR hbE hb ho
  obtain ⟨cX00, cX01, cX0z⟩ := BX010.out
  go_wp2_with fail
  refine (markGraph_any _ n0 _ l0 (1 : Int) _ OX010.out hl90 (by omega) (by omega)).mono ?_
  rintro e w11 ⟨rfl, ho, hg⟩
  have BA11 := Lib.hid (BA10.out.keep hg (fun h => by have := X0L.out _ h; omega))
  have BW11 := Lib.hid (BW10.out.keep hg (fun h => by have := X0L.out _ h; omega))
  have BG11 := Lib.hid (BG10.out.keep hg (fun h => by have := X0L.out _ h; omega))
  have OW11 := Lib.hid (OW10.out.keep hg (fun k hk j hj => by have := X0L.out _ hk; have := WL.out _ hj; omega))
  have OG11 := Lib.hid (OG10.out.keep hg (fun k hk j hj => by have := X0L.out _ hk; have := GL.out _ hj; omega))
  have F11 := Lib.hid (F10.out.grown hg F10.out.size (fun k hk => by have := (X0L.out _ hk).1; omega))
  have hz10 : w10.heap.size ≤ w11.heap.size := hg.size
  clear BA10 BW10 BX010 BG10 OW10 OX010 OG10 F10 hg ho cX00 cX01 cX0z
  have hk : decide ((1 + (l0.length : Int)) < 0) = false := by simp; omega
  obtain ⟨cG0, cG1, cGz⟩ := BG11.out
  obtain ⟨cW0, cW1, cWz⟩ := BW11.out
  go_wp2_with fail
  refine (eqGraph_same n' _ _ l' _ OG11.out.ints OW11.out.ints hl9').mono ?_
  rintro e w12 ⟨rfl, hb⟩
  have BA12 := Lib.hid (BA11.out.keep (below_grown hb) (by simp))
  have BW12 := Lib.hid (BW11.out.keep (below_grown hb) (by simp))
  have BG12 := Lib.hid (BG11.out.keep (below_grown hb) (by simp))
  have OW12 := Lib.hid (OW11.out.keep (below_grown hb) (by simp))
  have OG12 := Lib.hid (OG11.out.keep (below_grown hb) (by simp))
  have F12 := Lib.hid (F11.out.trans (hb.mono F11.out.size))
  have hz11 : w11.heap.size ≤ w12.heap.size := hb.size
  clear BA11 BW11 BG11 OW11 OG11 F11 hb cG0 cG1 cGz cW0 cW1 cWz
  obtain ⟨cG0, cG1, cGz⟩ := BG12.out
  go_wp2_with fail
  refine (markGraph_any _ n' _ l' 1 _ OG12.out hl9' (by omega) (by omega)).mono ?_
  rintro e w13 ⟨rfl, ho, hg⟩
  have BA13 := Lib.hid (BA12.out.keep hg (fun h => by have := GL.out _ h; omega))
  have BW13 := Lib.hid (BW12.out.keep hg (fun h => by have := GL.out _ h; omega))
  have BG13 := Lib.hid (BG12.out.keep hg (fun h => by have := GL.out _ h; omega))
  have OW13 := Lib.hid (OW12.out.keep hg (fun k hk j hj => by have := GL.out _ hk; have := WL.out _ hj; omega))
  have F13 := Lib.hid (F12.out.grown hg F12.out.size (fun k hk => by have := (GL.out _ hk).1; omega))
  have OG13 := Lib.hid ho
  have hz12 : w12.heap.size ≤ w13.heap.size := hg.size
  clear BA12 BW12 BG12 OW12 OG12 F12 hg ho cG0 cG1 cGz
  obtain ⟨cG0, cG1, cGz⟩ := BG13.out
  go_wp2_with fail
  refine (heldGraph_any n' _ 1 l'.length _ OG13.out.ints hl9' (by omega) (by omega)).mono ?_
  rintro e w14 ⟨rfl, hb⟩
  have BA14 := Lib.hid (BA13.out.keep (below_grown hb) (by simp))
  have BW14 := Lib.hid (BW13.out.keep (below_grown hb) (by simp))
  have BG14 := Lib.hid (BG13.out.keep (below_grown hb) (by simp))
  have OW14 := Lib.hid (OW13.out.keep (below_grown hb) (by simp))
  have OG14 := Lib.hid (OG13.out.keep (below_grown hb) (by simp))
  have F14 := Lib.hid (F13.out.trans (hb.mono F13.out.size))
  have hz13 : w13.heap.size ≤ w14.heap.size := hb.size
  clear BA13 BW13 BG13 OW13 OG13 F13 hb cG0 cG1 cGz
  have hk' : decide ((1 : Int) + l'.length < 0) = false := by simp; omega
  have hq : ((1 : Int) + l'.length != 1 + l'.length) = false := by simp
  obtain ⟨cA0, cA1, cAz⟩ := BA14.out
  go_wp2_with fail
  refine (toGraph_any n0 _ l0 _ (HX0.out.on F14.out) hl60).mono ?_
  rintro e w15 ⟨t0, rfl, ho, hb⟩
  have BA15 := Lib.hid (BA14.out.keep (below_grown hb) (by simp))
  have BW15 := Lib.hid (BW14.out.keep (below_grown hb) (by simp))
  have BG15 := Lib.hid (BG14.out.keep (below_grown hb) (by simp))
  have OW15 := Lib.hid (OW14.out.keep (below_grown hb) (by simp))
  have OG15 := Lib.hid (OG14.out.keep (below_grown hb) (by simp))
  have F15 := Lib.hid (F14.out.trans (hb.mono F14.out.size))
  have hz14 : w14.heap.size ≤ w15.heap.size := hb.size
  have OT015 := Lib.hid ho
  clear BA14 BW14 BG14 OW14 OG14 F14 hb ho cA0 cA1 cAz
  go_wp2_with fail
  refine (HI.out _ _ OT015.out.ints OT015.out.nilform).mono ?_
  rintro e w16 ⟨vh, rfl, ho, hb⟩
  have BA16 := Lib.hid (BA15.out.keep (below_grown hb) (by simp))
  have BW16 := Lib.hid (BW15.out.keep (below_grown hb) (by simp))
  have BG16 := Lib.hid (BG15.out.keep (below_grown hb) (by simp))
  have OW16 := Lib.hid (OW15.out.keep (below_grown hb) (by simp))
  have OG16 := Lib.hid (OG15.out.keep (below_grown hb) (by simp))
  have OT016 := Lib.hid (OT015.out.keep (below_grown hb) (by simp))
  have F16 := Lib.hid (F15.out.trans (hb.mono F15.out.size))
  have hz15 : w15.heap.size ≤ w16.heap.size := hb.size
  obtain ⟨aH, capH, rfl, -, -⟩ := ho.ints.form
  have HL := Lib.hid ho.lt
  have OH16 := Lib.hid ho
  clear BA15 BW15 BG15 OW15 OG15 OT015 F15 hb ho
  obtain ⟨w17, hw17⟩ : ∃ w17, w17 = w16.alloc (.cells #[.int .i64 n', .slice aH l'.length capH] 27) := ⟨_, rfl⟩
  have G17 : w16.grownBy w17 none := by rw [hw17]; exact grown_alloc _ _ _
  have hz16 : w16.heap.size < w17.heap.size := by rw [hw17]; simp
  obtain ⟨cW0, cW1, cWz⟩ := BW16.out
  have BA17 := Lib.hid (BA16.out.keep G17 (by simp))
  have BW17 := Lib.hid (BW16.out.keep G17 (by simp))
  have BG17 := Lib.hid (BG16.out.keep G17 (by simp))
  have OW17 := Lib.hid (OW16.out.keep G17 (by simp))
  have OG17 := Lib.hid (OG16.out.keep G17 (by simp))
  have OH17 := Lib.hid (OH16.out.keep G17 (by simp))
  have F17 := Lib.hid (show Below w.heap.size w w17 by rw [hw17]; exact F16.out.alloc F16.out.size _)
  have BH17 := Lib.hid (show BoxG w16.heap.size n' (.slice aH l'.length capH) w17 by rw [hw17]; exact BoxG.new w16 _ n' _ ⟨_, _, _, rfl⟩)
  go_wp2_with fail
  rw [← hw17]
  clear hw17 G17 BA16 BW16 BG16 OW16 OG16 OH16 F16 cW0 cW1 cWz
  refine (eqGraph_same n' _ _ l' _ OH17.out.ints OW17.out.ints hl9').mono ?_
  rintro e w18 ⟨rfl, hb⟩
  have BA18 := Lib.hid (BA17.out.keep (below_grown hb) (by simp))
  have BW18 := Lib.hid (BW17.out.keep (below_grown hb) (by simp))
  have BG18 := Lib.hid (BG17.out.keep (below_grown hb) (by simp))
  have BH18 := Lib.hid (BH17.out.keep (below_grown hb) (by simp))
  have OW18 := Lib.hid (OW17.out.keep (below_grown hb) (by simp))
  have OG18 := Lib.hid (OG17.out.keep (below_grown hb) (by simp))
  have OH18 := Lib.hid (OH17.out.keep (below_grown hb) (by simp))
  have F18 := Lib.hid (F17.out.trans (hb.mono F17.out.size))
  have hz17 : w17.heap.size ≤ w18.heap.size := hb.size
  clear BA17 BW17 BG17 BH17 OW17 OG17 OH17 F17 hb
  obtain ⟨cG0, cG1, cGz⟩ := BG18.out
  go_wp2_with fail
  refine (heldGraph_any n' _ 1 l'.length _ OG18.out.ints hl9' (by omega) (by omega)).mono ?_
  rintro e w19 ⟨rfl, hb⟩
  have BA19 := Lib.hid (BA18.out.keep (below_grown hb) (by simp))
  have BW19 := Lib.hid (BW18.out.keep (below_grown hb) (by simp))
  have BG19 := Lib.hid (BG18.out.keep (below_grown hb) (by simp))
  have OW19 := Lib.hid (OW18.out.keep (below_grown hb) (by simp))
  have OG19 := Lib.hid (OG18.out.keep (below_grown hb) (by simp))
  have F19 := Lib.hid (F18.out.trans (hb.mono F18.out.size))
  have hz18 : w18.heap.size ≤ w19.heap.size := hb.size
  clear BA18 BW18 BG18 OW18 OG18 F18 hb cG0 cG1 cGz
  go_wp2
  go_ret
  exact ⟨rfl, F19.out⟩

set_option maxHeartbeats 1000000 in
theorem walk (n0 : Int) (v0 : Value) (l0 : List Int) (a1 : Int) (w : World) (w0 : (Lit.int .i64 n0).wf = true) (x0 : Ints w v0 l0) (w1 : (Lit.int .i64 a1).wf = true) : Calls Try.prog 11 #[.agg #[.int .i64 n0, v0], .int .i64 a1] w fun e w' => e = .returned (.bool true) ∧ Below w.heap.size w w' := by
  by_cases hb0 : 1048576 < (l0.length : Int)
  · obtain ⟨a, cap, rfl, hc, hm⟩ := x0.form
    have HX := Lib.hid x0
    clear x0 w0
    go_enter Try.func11, Try.ntmps11
    go_wp2_with fail
    refine (szGraph_over n0 _ l0 _ _ (HX.out.alloc _) hb0 (by omega)).mono ?_
    rintro e w1 ⟨rfl, hb⟩
    have HB := Lib.hid hb
    clear hb
    go_wp2
    go_ret
    exact ⟨rfl, ((Below.refl _ w).alloc (Nat.le_refl _) _).trans (HB.out.mono (by simp))⟩
  exact core n0 v0 l0 a1 w w0 x0 w1 (indN n0 l0 a1) (indL n0 l0 a1) (decide (IndOk n0 l0 a1)) (by have := indL_length n0 l0 a1; omega) (by omega)
    (fun W u0 h0 _ => specInduced n0 _ l0 a1 W h0)
    (fun W u0 h0 _ => implInduced n0 _ l0 a1 W h0)

set_option maxRecDepth 100000 in
theorem lifted (os : Os) (started : os.Started) (H : Type) (enc : TypeId × Value → H) :
    ReturnsInHanded {} Try.checked os 11 .any (Rows.fnExactInducedOnSpec.pre6 enc Try.prog Try.f11 Rows.fnExactInducedOnRow.domain false) (Rows.fnExactInducedOnSpec.post enc Try.prog Try.f11 false true false false) := by
  refine returnsInHanded_of_change (C := Try.checked) own started (by kernel_rfl) Try.func11
    (ChangeSpec.witness6 (enc := enc) (C := Try.checked) false ⟨#[], #[.agg #[.int .i64 0, .slice none 0 0], .int .i64 0], []⟩ 8 (by kernel_rfl) (by kernel_rfl) (by kernel_rfl) (by kernel_rfl)) ?_
  intro W base args ds gs before hval0 hW hcnd _
  have hval : ∀ (j : Nat) t v, Try.f11.params[j]? = some t → args[j]? = some v → Value.okWide Try.prog W .any base t v := hval0
  have hW' := hW
  obtain ⟨p, q, hA0, hV, rfl, hfz, hnd⟩ := hW
  have hA : DataW.TrodAll enc Try.prog W 0 (fun _ => true) true Try.f11.params.toList args.toList ds p := hA0
  rw [Try.params11] at hA hval
  obtain ⟨v0, vs0, d0, ds0, p0, q0, hargs, rfl, rfl, h0, r0⟩ := trodAll_cons hA
  obtain ⟨v1, vs1, d1, ds1, p1, q1, rfl, rfl, rfl, h1, r1⟩ := trodAll_cons r0
  obtain ⟨rfl, rfl, rfl⟩ := trodAll_nil r1
  obtain rfl : args = #[v0, v1] := by cases args; simp_all
  obtain ⟨rfl, rfl⟩ := trodVars_none hV
  have k0 := h0
  obtain ⟨n0, u0, l0, rfl, w0, x0⟩ := open_graph Try.underlying24 (by kernel_rfl) (by kernel_rfl) Try.underlying3 Try.underlying22 Try.underlying3 (by kernel_rfl) (hval 0 24 v0 rfl rfl) h0
  obtain ⟨a1, rfl, rfl, rfl, w1⟩ := open_int Try.underlying3 (hval 1 3 v1 rfl rfl) h1
  clear hA0 hval0
  refine (walk n0 u0 l0 a1 W w0 x0 w1).mono fun e W' ⟨he, bel⟩ => ?_
  subst he
  exact ⟨_, rfl, _, _, _, [], _, [], hW', (trodAll_cons_mk (shut_bool Try.underlying4 _) trodAll_mk0), (trodAll_cons_mk (Below.trod laidOut (by kernel_rfl) (of_decide_eq_true (by kernel_rfl)) k0 bel (lt_of_trod k0)) (trodAll_cons_mk (shut_int Try.underlying3 w1) trodAll_mk0)), rfl, bel.frame _, fun h => by cases h⟩

theorem proved : Rows.FnExactInducedOnSaid :=
  OpenClaim.holds_of_wide 11 Try.f11 rfl rfl rfl rfl rfl rfl rfl ⟨rfl, rfl, rfl, rfl, rfl⟩ rfl rfl rfl rfl rfl (by kernel_rfl) Try.func11 (by kernel_rfl)
    (of_decide_eq_true (by kernel_rfl)) (by unfold Func.isWrapper; first | (rw [if_pos (by decide +kernel)]; kernel_rfl) | (rw [if_neg (by decide +kernel)]; exact ⟨rfl, rfl⟩))
    (fun os started H enc _ => lifted os started H enc)
#print axioms proved
end Go.Proofs.Ytkadihfbbmhebab.fnExactInducedOn
