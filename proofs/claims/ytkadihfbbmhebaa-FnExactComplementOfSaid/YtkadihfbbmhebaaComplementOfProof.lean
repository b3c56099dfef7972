/- ComplementOf answers as the specification, at every graph; its answer owns its memory. -/
import Derived.Test.YtkadihfbbmhebaaRows
import Derived.Test.YtkadihfbbmhebaaSh
import Derived.Test.YtkadihfbbmhebaaG9
import Derived.Test.YtkadihfbbmhebaaGl
import Derived.WalkKit
import Derived.Lib.LaidTab
import Derived.ProofKit
import Derived.LaidMore
import Derived.OpenShut
import Derived.ShutString
import Derived.ChangeOld
import Derived.Below
import Derived.Stop.Joined
import Derived.Stop.LaidErr
namespace Go.Proofs.Ytkadihfbbmhebaa.fnExactComplementOf
open Go.ChangeShapes Go.WideShapes Go.ChangeAt Go.RowKit
open Go.ChangeMaps (open_string shut_string)
set_option linter.unusedVariables false

theorem own : ownKnob Try.prog.godebug = none := by kernel_rfl

theorem laidOut : laidOutB Try.prog = true := by kernel_rfl

set_option maxHeartbeats 4000000 in
set_option maxRecDepth 100000 in
theorem core (n0 : Int) (v0 : Value) (l0 : List Int) (w : World) (w0 : (Lit.int .i64 n0).wf = true) (x0 : Ints w v0 l0) (n' : Int) (l' : List Int) (b : Bool) (hl' : l'.length ≤ 1048576) (hbig : (l0.length : Int) ≤ 1048576)
    (hs : ∀ W v, Ints W v l0 → (v = .slice none 0 0 ∨ ∃ ad cap, v = .slice (some ad) l0.length cap) → Calls Try.prog 24 #[.agg #[.int .i64 n0, v]] W (GetsGB W.heap.size W n' l' b))
    (hi : ∀ W v, Ints W v l0 → Calls Try.prog 25 #[.agg #[.int .i64 n0, v]] W (GetsGB W.heap.size W n' l' b)) :
    Calls Try.prog 7 #[.agg #[.int .i64 n0, v0]] w fun e w' => e = .returned (.bool true) ∧ Below w.heap.size w w' := by
  obtain ⟨a, cap, rfl, hc, hm⟩ := x0.form
  have HS := Lib.hid hs
  have HI := Lib.hid hi
  have HX := Lib.hid x0
  clear x0 hs hi w0
  have hbb : (b != b) = false := by simp
  have hp : (0 : Int) ≤ 1048576 - l0.length := by omega
  have hl9 : l0.length ≤ 100000000 := by omega
  have hl6 : l0.length ≤ 1048576 := by omega
  have hl9' : l'.length ≤ 100000000 := by omega
  go_enter Try.func7, Try.ntmps7
  go_wp2_with fail
  refine (szGraph_fits n0 _ l0 _ _ (HX.out.alloc _) hbig (by omega)).mono ?_
  rintro e w1 ⟨rfl, hb⟩
  have BA := (BoxG.new w 24 n0 (.slice a l0.length cap) ⟨_, _, _, rfl⟩).keep (below_grown hb) (by simp)
  have F1 := Lib.hid (((Below.refl _ w).alloc (Nat.le_refl _) (.cells #[.int .i64 n0, .slice a l0.length cap] 24)).trans (hb.mono (by simp)))
  have HA1 := Lib.hid BA
  obtain ⟨c0, c1, cz⟩ := BA
  clear hb
  -- the specification's answer
  go_wp2_with fail
  refine (toGraph_any n0 _ l0 _ (HX.out.on F1.out) hl6).mono ?_
  rintro e w2 ⟨vs, rfl, ho, hb⟩
  have HA2 := Lib.hid (HA1.out.keep (below_grown hb) (by simp))
  have F2 := Lib.hid (F1.out.trans (hb.mono F1.out.size))
  have HO := Lib.hid ho
  clear ho hb c0 c1 cz HA1
  obtain ⟨c0, c1, cz⟩ := HA2.out
  go_wp2_with fail
  refine (HS.out _ _ HO.out.ints HO.out.nilform).mono ?_
  rintro e w3 ⟨vw, rfl, ho, hb⟩
  have HA3 := Lib.hid (HA2.out.keep (below_grown hb) (by simp))
  have F3 := Lib.hid (F2.out.trans (hb.mono F2.out.size))
  obtain ⟨aw, capw, rfl, -, -⟩ := ho.ints.form
  have OW3 := Lib.hid (ho.mono F2.out.size)
  clear ho hb c0 c1 cz HA2 HO
  -- the box of the specification's answer, the argument's copy
  obtain ⟨w4, hw4⟩ : ∃ w4, w4 = w3.alloc (.cells #[.int .i64 n', .slice aw l'.length capw] 27) := ⟨_, rfl⟩
  have G4 : w3.grownBy w4 none := by rw [hw4]; exact grown_alloc _ _ _
  have HW4 := Lib.hid (show BoxG w3.heap.size n' (.slice aw l'.length capw) w4 by rw [hw4]; exact BoxG.new w3 _ n' _ ⟨_, _, _, rfl⟩)
  have HA4 := Lib.hid (HA3.out.keep G4 (by simp))
  have F4 := Lib.hid (show Below w.heap.size w w4 by rw [hw4]; exact F3.out.alloc F3.out.size _)
  have OW4 := Lib.hid (OW3.out.keep G4 (by simp))
  obtain ⟨c0, c1, cz⟩ := HA3.out
  go_wp2_with fail
  rw [← hw4]
  have hz34 : w3.heap.size < w4.heap.size := HW4.out.2.2
  clear hw4 c0 c1 cz
  refine (toGraph_any n0 _ l0 _ (HX.out.on F4.out) hl6).mono ?_
  rintro e w5 ⟨vx, rfl, ho, hb⟩
  have HA5 := Lib.hid (HA4.out.keep (below_grown hb) (by simp))
  have HW5 := Lib.hid (HW4.out.keep (below_grown hb) (by simp))
  have F5 := Lib.hid (F4.out.trans (hb.mono F4.out.size))
  have OW5 := Lib.hid (OW4.out.keep (below_grown hb) (by simp))
  obtain ⟨ax, capx, rfl, -, -⟩ := ho.ints.form
  have OX5 := Lib.hid ho
  have hwlt : ∀ k, (Value.slice aw l'.length capw).ownBlock = some k → k < w4.heap.size := fun k hk => (OW4.out.lt k hk).2
  have HWL := Lib.hid hwlt
  have hz45 : w4.heap.size ≤ w5.heap.size := hb.size
  clear ho hb hwlt HA4 HW4
  obtain ⟨w6, hw6⟩ : ∃ w6, w6 = w5.alloc (.cells #[.int .i64 n0, .slice ax l0.length capx] 27) := ⟨_, rfl⟩
  have G6 : w5.grownBy w6 none := by rw [hw6]; exact grown_alloc _ _ _
  have HX6 := Lib.hid (show BoxG w5.heap.size n0 (.slice ax l0.length capx) w6 by rw [hw6]; exact BoxG.new w5 _ n0 _ ⟨_, _, _, rfl⟩)
  have HA6 := Lib.hid (HA5.out.keep G6 (by simp))
  have HW6 := Lib.hid (HW5.out.keep G6 (by simp))
  have F6 := Lib.hid (show Below w.heap.size w w6 by rw [hw6]; exact F5.out.alloc F5.out.size _)
  have OW6 := Lib.hid (OW5.out.keep G6 (by simp))
  have OX6 := Lib.hid (OX5.out.keep G6 (by simp))
  have hz56 : w5.heap.size < w6.heap.size := HX6.out.2.2
  have HXL := Lib.hid (show ∀ k, (Value.slice ax l0.length capx).ownBlock = some k → w4.heap.size ≤ k ∧ k < w5.heap.size from fun k hk => OX5.out.lt k hk)
  go_wp2_with fail
  rw [← hw6]
  clear hw6 G6 HA5 HW5
  refine (HI.out _ _ OX6.out.ints).mono ?_
  rintro e w7 ⟨vg, rfl, ho, hb⟩
  have HA7 := Lib.hid (HA6.out.keep (below_grown hb) (by simp))
  have HW7 := Lib.hid (HW6.out.keep (below_grown hb) (by simp))
  have HX7 := Lib.hid (HX6.out.keep (below_grown hb) (by simp))
  have F7 := Lib.hid (F6.out.trans (hb.mono F6.out.size))
  have OW7 := Lib.hid (OW6.out.keep (below_grown hb) (by simp))
  have OX7 := Lib.hid (OX6.out.keep (below_grown hb) (by simp))
  obtain ⟨ag, capg, rfl, -, -⟩ := ho.ints.form
  have OG7 := Lib.hid ho
  have hz67 : w6.heap.size ≤ w7.heap.size := hb.size
  clear ho hb HA6 HW6 HX6
  obtain ⟨w8, hw8⟩ : ∃ w8, w8 = w7.alloc (.cells #[.int .i64 n', .slice ag l'.length capg] 27) := ⟨_, rfl⟩
  have G8 : w7.grownBy w8 none := by rw [hw8]; exact grown_alloc _ _ _
  have HG8 := Lib.hid (show BoxG w7.heap.size n' (.slice ag l'.length capg) w8 by rw [hw8]; exact BoxG.new w7 _ n' _ ⟨_, _, _, rfl⟩)
  have HA8 := Lib.hid (HA7.out.keep G8 (by simp))
  have HW8 := Lib.hid (HW7.out.keep G8 (by simp))
  have HX8 := Lib.hid (HX7.out.keep G8 (by simp))
  have F8 := Lib.hid (show Below w.heap.size w w8 by rw [hw8]; exact F7.out.alloc F7.out.size _)
  have OW8 := Lib.hid (OW7.out.keep G8 (by simp))
  have OX8 := Lib.hid (OX7.out.keep G8 (by simp))
  have OG8 := Lib.hid (OG7.out.keep G8 (by simp))
  have hz78 : w7.heap.size < w8.heap.size := HG8.out.2.2
  have HGL := Lib.hid (show ∀ k, (Value.slice ag l'.length capg).ownBlock = some k → w6.heap.size ≤ k ∧ k < w7.heap.size from fun k hk => OG7.out.lt k hk)
  obtain ⟨d0, d1, dz⟩ := HW7.out
  go_wp2_with fail
  rw [← hw8]
  clear hw8 G8 HA7 HW7 HX7 d0 d1 dz
  refine (eqGraph_same n' _ _ l' _ OG8.out.ints OW8.out.ints hl9').mono ?_
  rintro e w9 ⟨rfl, hb⟩
  have HA9 := Lib.hid (HA8.out.keep (below_grown hb) (by simp))
  have HW9 := Lib.hid (HW8.out.keep (below_grown hb) (by simp))
  have HX9 := Lib.hid (HX8.out.keep (below_grown hb) (by simp))
  have HG9 := Lib.hid (HG8.out.keep (below_grown hb) (by simp))
  have F9 := Lib.hid (F8.out.trans (hb.mono F8.out.size))
  have OW9 := Lib.hid (OW8.out.keep (below_grown hb) (by simp))
  have OX9 := Lib.hid (OX8.out.keep (below_grown hb) (by simp))
  have OG9 := Lib.hid (OG8.out.keep (below_grown hb) (by simp))
  have hz89 : w8.heap.size ≤ w9.heap.size := hb.size
  clear hb HA8 HW8 HX8 HG8 OW8 OX8 OG8
  have hz9 : w.heap.size < w9.heap.size := HA9.out.2.2
  have HS9 : Hid (∀ W, Below w9.heap.size w9 W → W.cell? ⟨w.heap.size, 0, none⟩ = some (.int .i64 n0) ∧ W.cell? ⟨w.heap.size, 1, none⟩ = some (.slice a l0.length cap) ∧
      W.cell? ⟨w5.heap.size, 0, none⟩ = some (.int .i64 n0) ∧ W.cell? ⟨w5.heap.size, 1, none⟩ = some (.slice ax l0.length capx) ∧ Ints W (.slice a l0.length cap) l0 ∧ Ints W (.slice ax l0.length capx) l0 ∧ Below w9.heap.size w9 W) := fun W hb => by
    have k1 := HA9.out.keep (below_grown hb) (by simp)
    have k2 := HX9.out.keep (below_grown hb) (by simp)
    exact ⟨k1.1, k1.2.1, k2.1, k2.2.1, HX.out.on (F9.out.trans (hb.mono F9.out.size)), (OX9.out.keep (below_grown hb) (by simp)).ints, hb⟩
  go_wp2
  go_region_held3 (fun w' => w'.cell? ⟨w.heap.size, 0, none⟩ = some (.int .i64 n0) ∧ w'.cell? ⟨w.heap.size, 1, none⟩ = some (.slice a l0.length cap) ∧
      w'.cell? ⟨w5.heap.size, 0, none⟩ = some (.int .i64 n0) ∧ w'.cell? ⟨w5.heap.size, 1, none⟩ = some (.slice ax l0.length capx) ∧ Ints w' (.slice a l0.length cap) l0 ∧ Ints w' (.slice ax l0.length capx) l0 ∧ Below w9.heap.size w9 w')
    (first | exact HS9.out _ (Below.refl _ _).drew | exact HS9.out _ (Below.refl _ _) | (go_split_ands; exact HS9.out _ (btrans (by assumption) hb)))
    (first
      | (go_at_call 13; go_split_ands; refine (toGraph_any n0 _ l0 _ (by assumption) hl6).mono ?_; rintro e w10 ⟨v3, rfl, ho, hb⟩)
      | (go_at_call 15; go_split_ands; refine (eqGraph_same n0 _ _ l0 _ (by assumption) ho.ints hl9).mono ?_; rintro e w11 ⟨rfl, hb⟩))
  go_split_ands
  have hbE : Below w9.heap.size w9 w11 := by assumption
  have HA11 := Lib.hid (HA9.out.keep (below_grown hbE) (by simp))
  have HW11 := Lib.hid (HW9.out.keep (below_grown hbE) (by simp))
  have HX11 := Lib.hid (HX9.out.keep (below_grown hbE) (by simp))
  have HG11 := Lib.hid (HG9.out.keep (below_grown hbE) (by simp))
  have OW11 := Lib.hid (OW9.out.keep (below_grown hbE) (by simp))
  have OX11 := Lib.hid (OX9.out.keep (below_grown hbE) (by simp))
  have OG11 := Lib.hid (OG9.out.keep (below_grown hbE) (by simp))
  have F11 := Lib.hid (F9.out.trans (hbE.mono F9.out.size))
  have hz911 : w9.heap.size ≤ w11.heap.size := hbE.size
  clear HS9 hbE HA9 HW9 HX9 HG9 OW9 OX9 OG9
  have hw3 : w.heap.size ≤ w3.heap.size := F3.out.size
  obtain ⟨c0, c1, cz⟩ := HX11.out
  go_wp2_with fail
  refine (markGraph_any w4.heap.size n0 _ l0 1 _ OX11.out hl9 (by omega) (by omega)).mono ?_
  rintro e w12 ⟨rfl, ho, hg⟩
  have HA12 := Lib.hid (HA11.out.keep hg (fun h => by have := (HXL.out _ h).1; omega))
  have HW12 := Lib.hid (HW11.out.keep hg (fun h => by have := (HXL.out _ h).1; omega))
  have HG12 := Lib.hid (HG11.out.keep hg (fun h => by have := (HXL.out _ h).2; omega))
  have OW12 := Lib.hid (OW11.out.keep hg (fun k hk j hj => by have := (HXL.out _ hk).1; have := HWL.out _ hj; omega))
  have OG12 := Lib.hid (OG11.out.keep hg (fun k hk j hj => by have := (HXL.out _ hk).2; have := (HGL.out _ hj).1; omega))
  have F12 := Lib.hid (F11.out.grown hg F11.out.size (fun k hk => by have := (HXL.out _ hk).1; omega))
  have hz12 : w11.heap.size ≤ w12.heap.size := hg.size
  clear ho hg c0 c1 cz HX11 OX11 HA11 HW11 HG11 OW11 OG11
  obtain ⟨c0, c1, cz⟩ := HG12.out
  obtain ⟨d0, d1, dz⟩ := HW12.out
  have hk : decide ((1 : Int) + l0.length < 0) = false := by simp; omega
  go_wp2_with fail
  refine (eqGraph_same n' _ _ l' _ OG12.out.ints OW12.out.ints hl9').mono ?_
  rintro e w13 ⟨rfl, hb⟩
  have HA13 := Lib.hid (HA12.out.keep (below_grown hb) (by simp))
  have HW13 := Lib.hid (HW12.out.keep (below_grown hb) (by simp))
  have HG13 := Lib.hid (HG12.out.keep (below_grown hb) (by simp))
  have OW13 := Lib.hid (OW12.out.keep (below_grown hb) (by simp))
  have OG13 := Lib.hid (OG12.out.keep (below_grown hb) (by simp))
  have F13 := Lib.hid (F12.out.trans (hb.mono F12.out.size))
  have hz13 : w12.heap.size ≤ w13.heap.size := hb.size
  clear hb c0 c1 cz d0 d1 dz hk HA12 HW12 HG12 OW12 OG12
  obtain ⟨c0, c1, cz⟩ := HG13.out
  go_wp2_with fail
  refine (markGraph_any w6.heap.size n' _ l' 1 _ OG13.out hl9' (by omega) (by omega)).mono ?_
  rintro e w14 ⟨rfl, ho, hg⟩
  have HA14 := Lib.hid (HA13.out.keep hg (fun h => by have := (HGL.out _ h).1; omega))
  have HW14 := Lib.hid (HW13.out.keep hg (fun h => by have := (HGL.out _ h).1; omega))
  have HG14 := Lib.hid (HG13.out.keep hg (fun h => by have := (HGL.out _ h).2; omega))
  have OW14 := Lib.hid (OW13.out.keep hg (fun k hk j hj => by have := (HGL.out _ hk).1; have := HWL.out _ hj; omega))
  have OG14 := Lib.hid ho
  have F14 := Lib.hid (F13.out.grown hg F13.out.size (fun k hk => by have := (HGL.out _ hk).1; omega))
  have hz14 : w13.heap.size ≤ w14.heap.size := hg.size
  clear ho hg c0 c1 cz HA13 HW13 HG13 OW13 OG13
  obtain ⟨c0, c1, cz⟩ := HG14.out
  go_wp2_with fail
  refine (heldGraph_any n' _ 1 l'.length _ OG14.out.ints hl9' (by omega) (by omega)).mono ?_
  rintro e w15 ⟨rfl, hb⟩
  have HA15 := Lib.hid (HA14.out.keep (below_grown hb) (by simp))
  have HW15 := Lib.hid (HW14.out.keep (below_grown hb) (by simp))
  have HG15 := Lib.hid (HG14.out.keep (below_grown hb) (by simp))
  have OW15 := Lib.hid (OW14.out.keep (below_grown hb) (by simp))
  have OG15 := Lib.hid (OG14.out.keep (below_grown hb) (by simp))
  have F15 := Lib.hid (F14.out.trans (hb.mono F14.out.size))
  have hz15 : w14.heap.size ≤ w15.heap.size := hb.size
  clear hb c0 c1 cz HA14 HW14 HG14 OW14 OG14
  obtain ⟨c0, c1, cz⟩ := HA15.out
  have hk : decide ((1 : Int) + l'.length < 0) = false := by simp; omega
  have hq : ((1 : Int) + l'.length != 1 + l'.length) = false := by simp
  go_wp2_with fail
  refine (toGraph_any n0 _ l0 _ (HX.out.on F15.out) hl6).mono ?_
  rintro e w16 ⟨vy, rfl, ho, hb⟩
  have HW16 := Lib.hid (HW15.out.keep (below_grown hb) (by simp))
  have HG16 := Lib.hid (HG15.out.keep (below_grown hb) (by simp))
  have OW16 := Lib.hid (OW15.out.keep (below_grown hb) (by simp))
  have OG16 := Lib.hid (OG15.out.keep (below_grown hb) (by simp))
  have F16 := Lib.hid (F15.out.trans (hb.mono F15.out.size))
  have OY16 := Lib.hid ho
  clear ho hb c0 c1 cz HA15 HW15 HG15 OW15 OG15
  go_wp2_with fail
  refine (HI.out _ _ OY16.out.ints).mono ?_
  rintro e w17 ⟨vh, rfl, ho, hb⟩
  have HW17 := Lib.hid (HW16.out.keep (below_grown hb) (by simp))
  have HG17 := Lib.hid (HG16.out.keep (below_grown hb) (by simp))
  have OW17 := Lib.hid (OW16.out.keep (below_grown hb) (by simp))
  have OG17 := Lib.hid (OG16.out.keep (below_grown hb) (by simp))
  have F17 := Lib.hid (F16.out.trans (hb.mono F16.out.size))
  obtain ⟨ah, caph, rfl, -, -⟩ := ho.ints.form
  have OH17 := Lib.hid (ho.mono F16.out.size)
  clear ho hb HW16 HG16 OW16 OG16 OY16
  obtain ⟨w18, hw18⟩ : ∃ w18, w18 = w17.alloc (.cells #[.int .i64 n', .slice ah l'.length caph] 27) := ⟨_, rfl⟩
  have G18 : w17.grownBy w18 none := by rw [hw18]; exact grown_alloc _ _ _
  obtain ⟨d0, d1, dz⟩ := HW17.out
  have HW18 := Lib.hid (HW17.out.keep G18 (by simp))
  have HG18 := Lib.hid (HG17.out.keep G18 (by simp))
  have OW18 := Lib.hid (OW17.out.keep G18 (by simp))
  have OG18 := Lib.hid (OG17.out.keep G18 (by simp))
  have OH18 := Lib.hid (OH17.out.keep G18 (by simp))
  have F18 := Lib.hid (show Below w.heap.size w w18 by rw [hw18]; exact F17.out.alloc F17.out.size _)
  go_wp2_with fail
  rw [← hw18]
  clear hw18 G18 d0 d1 dz HW17 HG17 OW17 OG17 OH17
  refine (eqGraph_same n' _ _ l' _ OH18.out.ints OW18.out.ints hl9').mono ?_
  rintro e w19 ⟨rfl, hb⟩
  have HG19 := Lib.hid (HG18.out.keep (below_grown hb) (by simp))
  have OG19 := Lib.hid (OG18.out.keep (below_grown hb) (by simp))
  have F19 := Lib.hid (F18.out.trans (hb.mono F18.out.size))
  clear hb HW18 HG18 OW18 OG18 OH18
  obtain ⟨c0, c1, cz⟩ := HG19.out
  go_wp2_with fail
  refine (heldGraph_any n' _ 1 l'.length _ OG19.out.ints hl9' (by omega) (by omega)).mono ?_
  rintro e w20 ⟨rfl, hb⟩
  have F20 := Lib.hid (F19.out.trans (hb.mono F19.out.size))
  clear hb c0 c1 cz HG19 OG19
  go_wp2
  go_ret
  exact ⟨rfl, F20.out⟩

set_option maxHeartbeats 1000000 in
theorem walk (n0 : Int) (v0 : Value) (l0 : List Int) (w : World) (w0 : (Lit.int .i64 n0).wf = true) (x0 : Ints w v0 l0) : Calls Try.prog 7 #[.agg #[.int .i64 n0, v0]] w fun e w' => e = .returned (.bool true) ∧ Below w.heap.size w w' := by
  by_cases hbig : 1048576 < (l0.length : Int)
  · obtain ⟨a, cap, rfl, hc, hm⟩ := x0.form
    have HX := Lib.hid x0
    clear x0 w0
    go_enter Try.func7, Try.ntmps7
    go_wp2_with fail
    refine (szGraph_over n0 _ l0 _ _ (HX.out.alloc _) hbig (by omega)).mono ?_
    rintro e w1 ⟨rfl, hb⟩
    have HB := Lib.hid hb
    clear hb
    go_wp2
    go_ret
    exact ⟨rfl, ((Below.refl _ w).alloc (Nat.le_refl _) _).trans (HB.out.mono (by simp))⟩
  · have hl : l0.length ≤ 1048576 := by omega
    have hb' : (l0.length : Int) ≤ 1048576 := by omega
    by_cases hok : IsG n0 l0
    · exact core n0 v0 l0 w w0 x0 n0 (compL l0) true (by rw [compL_length]; exact hl) hb' (fun W v hv hn => specComplement_yes n0 v l0 W hv hok) (fun W v hv => implComplement_yes n0 v l0 W hv hok)
    · exact core n0 v0 l0 w w0 x0 0 [] false (by simp) hb' (fun W v hv hn => specComplement_no n0 v l0 W hv hok) (fun W v hv => implComplement_no n0 v l0 W hv hok)

set_option maxRecDepth 100000 in
theorem lifted (os : Os) (started : os.Started) (H : Type) (enc : TypeId × Value → H) :
    ReturnsInHanded {} Try.checked os 7 .any (Rows.fnExactComplementOfSpec.pre6 enc Try.prog Try.f7 Rows.fnExactComplementOfRow.domain false) (Rows.fnExactComplementOfSpec.post enc Try.prog Try.f7 false true false false) := by
  refine returnsInHanded_of_change (C := Try.checked) own started (by kernel_rfl) Try.func7
    (ChangeSpec.witness6 (enc := enc) (C := Try.checked) false ⟨#[], #[.agg #[.int .i64 0, .slice none 0 0]], []⟩ 8 (by kernel_rfl) (by kernel_rfl) (by kernel_rfl) (by kernel_rfl)) ?_
  intro W base args ds gs before hval0 hW hcnd _
  have hval : ∀ (j : Nat) t v, Try.f7.params[j]? = some t → args[j]? = some v → Value.okWide Try.prog W .any base t v := hval0
  have hW' := hW
  obtain ⟨p, q, hA0, hV, rfl, hfz, hnd⟩ := hW
  have hA : DataW.TrodAll enc Try.prog W 0 (fun _ => true) true Try.f7.params.toList args.toList ds p := hA0
  rw [Try.params7] at hA hval
  obtain ⟨v0, vs0, d0, ds0, p0, q0, hargs, rfl, rfl, h0, r0⟩ := trodAll_cons hA
  obtain ⟨rfl, rfl, rfl⟩ := trodAll_nil r0
  obtain rfl : args = #[v0] := by cases args; simp_all
  obtain ⟨rfl, rfl⟩ := trodVars_none hV
  have k0 := h0
  obtain ⟨n0, u0, l0, rfl, w0, x0⟩ := open_graph Try.underlying24 (by kernel_rfl) (by kernel_rfl) Try.underlying3 Try.underlying22 Try.underlying3 (by kernel_rfl) (hval 0 24 v0 rfl rfl) h0
  clear hA0 hval0
  refine (walk n0 u0 l0 W w0 x0).mono fun e W' ⟨he, bel⟩ => ?_
  subst he
  exact ⟨_, rfl, _, _, _, [], _, [], hW', (trodAll_cons_mk (shut_bool Try.underlying4 _) trodAll_mk0), (trodAll_cons_mk (Below.trod laidOut (by kernel_rfl) (of_decide_eq_true (by kernel_rfl)) k0 bel (lt_of_trod k0)) trodAll_mk0), rfl, bel.frame _, fun h => by cases h⟩

theorem proved : Rows.FnExactComplementOfSaid :=
  OpenClaim.holds_of_wide 7 Try.f7 rfl rfl rfl rfl rfl rfl rfl ⟨rfl, rfl, rfl, rfl, rfl⟩ rfl rfl rfl rfl rfl (by kernel_rfl) Try.func7 (by kernel_rfl)
    (of_decide_eq_true (by kernel_rfl)) (by unfold Func.isWrapper; first | (rw [if_pos (by decide +kernel)]; kernel_rfl) | (rw [if_neg (by decide +kernel)]; exact ⟨rfl, rfl⟩))
    (fun os started H enc _ => lifted os started H enc)
#print axioms proved
end Go.Proofs.Ytkadihfbbmhebaa.fnExactComplementOf
