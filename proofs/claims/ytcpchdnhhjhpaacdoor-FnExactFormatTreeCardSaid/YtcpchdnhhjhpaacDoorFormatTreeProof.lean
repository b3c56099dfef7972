/- At every argument FormatTree answers as its specification and writes into no argument; the tables of the library that are listed read as the text lays them (the card ties them). -/
import Derived.Test.YtcpchdnhhjhpaacDoorCards
import Derived.Test.YtcpchdnhhjhpaacDoorTie
import Derived.Test.YtcpchdnhhjhpaacDoorSh
import Derived.Test.YtcpchdnhhjhpaacDoorBx
import Derived.Test.YtcpchdnhhjhpaacDoorGl
import Derived.Test.YtcpchdnhhjhpaacDoorBt
import Derived.Test.YtcpchdnhhjhpaacDoorBx
import Derived.Test.YtcpchdnhhjhpaacDoorFr
import Derived.WalkKit
import Derived.Lib.LaidTab
import Derived.ProofKit
import Derived.LaidMore
import Derived.OpenShut
import Derived.ShutString
import Derived.ChangeOld
import Derived.Below
import Derived.Stop.Joined
import Derived.Stop.LaidErr
namespace Go.Proofs.YtcpchdnhhjhpaacDoor.fnExactFormatTree
open Go.ChangeShapes Go.WideShapes Go.ChangeAt Go.RowKit
open Go.ChangeMaps (open_string shut_string)
set_option linter.unusedVariables false

theorem own : ownKnob Tryd.prog.godebug = none := by kernel_rfl

theorem laidOut : laidOutB Tryd.prog = true := by kernel_rfl

theorem gTab : Tryd.prog.globalNamed "internal/strconv.uint64pow10" = some 2 := by kernel_rfl
theorem gTabType : (Tryd.prog.globals[2]?).map (·.type) = some 114 := by kernel_rfl
theorem cellsT : Tryd.prog.cellsOf 114 = 20 := by kernel_rfl
theorem cellsU : Tryd.prog.cellsOf 99 = 1 := by kernel_rfl
theorem table {W : World} (h : laidMetH Tryd.prog Rows.fnExactFormatTreeRow.laid W) : TabP W := by
  rw [MakeChecks.laidMetH_plain _ _ _ (by kernel_rfl)] at h
  exact Lib.tabIs_of_head (rest := []) gTab gTabType Tryd.underlying114 Tryd.underlying99 cellsU cellsT h.tail.tail

set_option maxHeartbeats 4000000 in
set_option maxRecDepth 100000 in
theorem core (v00 : Value) (l00 : List Int) (v01 : Value) (l01 : List Int) (w : World) (x00 : Ints w v00 l00) (x01 : Ints w v01 l01) (hL : laidMetH Tryd.prog Rows.fnExactFormatTreeRow.laid w) (r0 : ByteArray) (hbig : (l00.length : Int) + (l01.length : Int) ≤ 1048576)
    (hs : ∀ (W : World) (u00 : Value) (u01 : Value), Ints W u00 l00 → Ints W u01 l01 → (u00 = .slice none 0 0 ∨ ∃ ad cap, u00 = .slice (some ad) l00.length cap) → (u01 = .slice none 0 0 ∨ ∃ ad cap, u01 = .slice (some ad) l01.length cap) → Calls Tryd.prog 22 #[.agg #[u00, u01]] W (fun e W' => e = .returned (.string r0) ∧ Below W.heap.size W W'))
    (hi : ∀ (W : World) (u00 : Value) (u01 : Value), Below w.heap.size w W → Ints W u00 l00 → Ints W u01 l01 → (u00 = .slice none 0 0 ∨ ∃ ad cap, u00 = .slice (some ad) l00.length cap) → (u01 = .slice none 0 0 ∨ ∃ ad cap, u01 = .slice (some ad) l01.length cap) → Calls Tryd.prog 24 #[.agg #[u00, u01]] W (fun e W' => e = .returned (.string r0) ∧ Below W.heap.size W W')) :
    Calls Tryd.prog 6 #[.agg #[v00, v01]] w fun e w' => e = .returned (.bool true) ∧ Below w.heap.size w w' := by
  obtain ⟨a00, cap00, rfl, -, hm00⟩ := x00.form
  have HX00 := Lib.hid x00
  unfold maxLen at hm00
  clear hm00
  obtain ⟨a01, cap01, rfl, -, hm01⟩ := x01.form
  have HX01 := Lib.hid x01
  unfold maxLen at hm01
  clear hm01
  have HS := Lib.hid hs
  have HI := Lib.hid hi
  clear hs hi hL  x00 x01 
  have hp00 : (0 : Int) ≤ 1048576 - l00.length := by omega
  have hp01 : (0 : Int) ≤ 1048576 - l00.length - l01.length := by omega
  have hl900 : l00.length ≤ 100000000 := by omega
  have hl600 : l00.length ≤ 1048576 := by omega
  have hl901 : l01.length ≤ 100000000 := by omega
  have hl601 : l01.length ≤ 1048576 := by omega
  have BA0_0 := Lib.hid (show Box (w.heap.size) [.slice a00 l00.length cap00, .slice a01 l01.length cap01] (w.alloc (.cells #[.slice a00 l00.length cap00, .slice a01 l01.length cap01] 42)) from (Box.new w 42 [.slice a00 l00.length cap00, .slice a01 l01.length cap01]))
  have F0 := Lib.hid (show Below w.heap.size w (w.alloc (.cells #[.slice a00 l00.length cap00, .slice a01 l01.length cap01] 42)) from ((Below.refl _ w).alloc (Nat.le_refl _) (.cells #[.slice a00 l00.length cap00, .slice a01 l01.length cap01] 42)))
  go_enter Tryd.func6, Tryd.ntmps6
  have cA00 : (w.alloc (.cells #[.slice a00 l00.length cap00, .slice a01 l01.length cap01] 42)).cell? ⟨w.heap.size, 0, none⟩ = some (.slice a00 l00.length cap00) := BA0_0.out.1 0 _ rfl
  have cA01 : (w.alloc (.cells #[.slice a00 l00.length cap00, .slice a01 l01.length cap01] 42)).cell? ⟨w.heap.size, 1, none⟩ = some (.slice a01 l01.length cap01) := BA0_0.out.1 1 _ rfl
  have cA0z := BA0_0.out.2.2
  go_wp2_with fail
  refine (szTree_fits _ _ l00 l01 _ _ (HX00.out.on F0.out) (HX01.out.on F0.out) (by omega) (by omega)).mono ?_
  rintro e w1 ⟨rfl, hb⟩
  have BA0_1 := Lib.hid (BA0_0.out.on hb)
  have F1 := Lib.hid (F0.out.trans (hb.mono F0.out.size))
  have hz0 : w.heap.size + 1 ≤ w1.heap.size := BA0_1.out.2.2
  clear BA0_0 F0 hb cA00 cA01 cA0z
  have cA00 : w1.cell? ⟨w.heap.size, 0, none⟩ = some (.slice a00 l00.length cap00) := BA0_1.out.1 0 _ rfl
  have cA01 : w1.cell? ⟨w.heap.size, 1, none⟩ = some (.slice a01 l01.length cap01) := BA0_1.out.1 1 _ rfl
  have cA0z := BA0_1.out.2.2
  go_wp2_with fail
  refine (toTree_any _ _ l00 l01 _ (HX00.out.on F1.out) (HX01.out.on F1.out) hl600 hl601).mono ?_
  rintro e w2 ⟨tw00, tw01, K01, rfl, ho00, ho01, le01, lt01, hb⟩
  have BA0_2 := Lib.hid (BA0_1.out.on hb)
  have F2 := Lib.hid (F1.out.trans (hb.mono F1.out.size))
  have hz1 : w1.heap.size ≤ w2.heap.size := hb.size
  replace ho01 := ho01.mono (le01)
  have OT00_2 := Lib.hid (show OwnR w1.heap.size w2.heap.size w2 (tw00) l00 from ⟨ho00, fun k hk => (ho00.lt k hk).2⟩)
  have OT01_2 := Lib.hid (show OwnR w1.heap.size w2.heap.size w2 (tw01) l01 from ⟨ho01, fun k hk => (ho01.lt k hk).2⟩)
  clear BA0_1 F1 hb ho00 ho01 le01 lt01 cA00 cA01 cA0z
  go_wp2_with fail
  refine (HS.out _ _ _ OT00_2.out.1.ints OT01_2.out.1.ints OT00_2.out.1.nilform OT01_2.out.1.nilform).mono ?_
  rintro e w3 ⟨rfl, hb⟩
  have BA0_3 := Lib.hid (BA0_2.out.on hb)
  have OT00_3 := Lib.hid (OT00_2.out.on hb)
  have OT01_3 := Lib.hid (OT01_2.out.on hb)
  have F3 := Lib.hid (F2.out.trans (hb.mono F2.out.size))
  have hz2 : w2.heap.size ≤ w3.heap.size := hb.size
  clear BA0_2 OT00_2 OT01_2 F2 hb
  have cA00 : w3.cell? ⟨w.heap.size, 0, none⟩ = some (.slice a00 l00.length cap00) := BA0_3.out.1 0 _ rfl
  have cA01 : w3.cell? ⟨w.heap.size, 1, none⟩ = some (.slice a01 l01.length cap01) := BA0_3.out.1 1 _ rfl
  have cA0z := BA0_3.out.2.2
  go_wp2_with fail
  refine (toTree_any _ _ l00 l01 _ (HX00.out.on F3.out) (HX01.out.on F3.out) hl600 hl601).mono ?_
  rintro e w4 ⟨vx00, vx01, K01, rfl, ho00, ho01, le01, lt01, hb⟩
  have BA0_4 := Lib.hid (BA0_3.out.on hb)
  have F4 := Lib.hid (F3.out.trans (hb.mono F3.out.size))
  have hz3 : w3.heap.size ≤ w4.heap.size := hb.size
  replace ho01 := ho01.mono (le01)
  have OX00_4 := Lib.hid (show OwnR w3.heap.size w4.heap.size w4 (vx00) l00 from ⟨ho00, fun k hk => (ho00.lt k hk).2⟩)
  have OX01_4 := Lib.hid (show OwnR w3.heap.size w4.heap.size w4 (vx01) l01 from ⟨ho01, fun k hk => (ho01.lt k hk).2⟩)
  clear BA0_3 F3 hb ho00 ho01 le01 lt01 cA00 cA01 cA0z
  obtain ⟨ax00, capx00, hvx00⟩ : ∃ a c, vx00 = .slice a l00.length c := by obtain ⟨a, c, h, -, -⟩ := OX00_4.out.1.ints.form; exact ⟨a, c, h⟩
  subst hvx00
  obtain ⟨ax01, capx01, hvx01⟩ : ∃ a c, vx01 = .slice a l01.length c := by obtain ⟨a, c, h, -, -⟩ := OX01_4.out.1.ints.form; exact ⟨a, c, h⟩
  subst hvx01
  obtain ⟨w5, hw5⟩ : ∃ w5, w5 = w4.alloc (.cells #[.slice ax00 l00.length capx00, .slice ax01 l01.length capx01] 45) := ⟨_, rfl⟩
  have hb : Below w4.heap.size w4 w5 := by rw [hw5]; exact (Below.refl _ _).alloc (Nat.le_refl _) _
  have hzs4 : w4.heap.size < w5.heap.size := by rw [hw5]; simp
  have BA0_5 := Lib.hid (BA0_4.out.on hb)
  have OX00_5 := Lib.hid (OX00_4.out.on hb)
  have OX01_5 := Lib.hid (OX01_4.out.on hb)
  have F5 := Lib.hid (F4.out.trans (hb.mono F4.out.size))
  have hz4 : w4.heap.size ≤ w5.heap.size := hb.size
  have BX0_5 := Lib.hid (show Box w4.heap.size [.slice ax00 l00.length capx00, .slice ax01 l01.length capx01] w5 by rw [hw5]; exact Box.new w4 _ _)
  go_wp2_with fail
  rw [← hw5]
  clear BA0_4 OX00_4 OX01_4 F4 hb hw5
  refine (HI.out _ _ _ F5.out OX00_5.out.1.ints OX01_5.out.1.ints OX00_5.out.1.nilform OX01_5.out.1.nilform).mono ?_
  rintro e w6 ⟨rfl, hb⟩
  have BA0_6 := Lib.hid (BA0_5.out.on hb)
  have BX0_6 := Lib.hid (BX0_5.out.on hb)
  have OX00_6 := Lib.hid (OX00_5.out.on hb)
  have OX01_6 := Lib.hid (OX01_5.out.on hb)
  have F6 := Lib.hid (F5.out.trans (hb.mono F5.out.size))
  have hz5 : w5.heap.size ≤ w6.heap.size := hb.size
  clear BA0_5 BX0_5 OX00_5 OX01_5 F5 hb
  have HR : Hid (∀ W, Below w6.heap.size w6 W → W.cell? ⟨w.heap.size, 0, none⟩ = some (.slice a00 l00.length cap00) ∧ W.cell? ⟨w.heap.size, 1, none⟩ = some (.slice a01 l01.length cap01) ∧ W.cell? ⟨w4.heap.size, 0, none⟩ = some (.slice ax00 l00.length capx00) ∧ W.cell? ⟨w4.heap.size, 1, none⟩ = some (.slice ax01 l01.length capx01) ∧ Ints W (.slice a00 l00.length cap00) l00 ∧ Ints W (.slice a01 l01.length cap01) l01 ∧ Ints W (.slice ax00 l00.length capx00) l00 ∧ Ints W (.slice ax01 l01.length capx01) l01 ∧ Below w6.heap.size w6 W) := fun W hb => ⟨(BA0_6.out.on hb).1 0 _ rfl, (BA0_6.out.on hb).1 1 _ rfl, (BX0_6.out.on hb).1 0 _ rfl, (BX0_6.out.on hb).1 1 _ rfl, HX00.out.on (F6.out.trans (hb.mono F6.out.size)), HX01.out.on (F6.out.trans (hb.mono F6.out.size)), (OX00_6.out.on hb).1.ints, (OX01_6.out.on hb).1.ints, hb⟩
  go_wp2
  go_region_held3 (fun w' => w'.cell? ⟨w.heap.size, 0, none⟩ = some (.slice a00 l00.length cap00) ∧ w'.cell? ⟨w.heap.size, 1, none⟩ = some (.slice a01 l01.length cap01) ∧ w'.cell? ⟨w4.heap.size, 0, none⟩ = some (.slice ax00 l00.length capx00) ∧ w'.cell? ⟨w4.heap.size, 1, none⟩ = some (.slice ax01 l01.length capx01) ∧ Ints w' (.slice a00 l00.length cap00) l00 ∧ Ints w' (.slice a01 l01.length cap01) l01 ∧ Ints w' (.slice ax00 l00.length capx00) l00 ∧ Ints w' (.slice ax01 l01.length capx01) l01 ∧ Below w6.heap.size w6 w')
    (first | exact HR.out _ (Below.refl _ _).drew | exact HR.out _ (Below.refl _ _) | (go_split_ands; exact HR.out _ (btrans (by assumption) hb)))
    (first
      | (go_at_call 23; go_split_ands; refine (toTree_any _ _ l00 l01 _ (by assumption) (by assumption) hl600 hl601).mono ?_; rintro e wa ⟨vy00, vy01, K01, rfl, ho00, ho01, le01, lt01, hb⟩)
      | (go_at_call 25; go_split_ands; refine (eqTree_same _ _ _ _ l00 l01 _ (by assumption) (by assumption) ho00.ints ho01.ints hl900 hl901).mono ?_; rintro e w7 ⟨rfl, hb⟩))
  go_split_ands
  have hbE : Below w6.heap.size w6 w7 := by assumption
  have BA0_7 := Lib.hid (BA0_6.out.on hbE)
  have BX0_7 := Lib.hid (BX0_6.out.on hbE)
  have OX00_7 := Lib.hid (OX00_6.out.on hbE)
  have OX01_7 := Lib.hid (OX01_6.out.on hbE)
  have F7 := Lib.hid (F6.out.trans (hbE.mono F6.out.size))
  have hz6 : w6.heap.size ≤ w7.heap.size := hbE.size
  clear BA0_6 BX0_6 OX00_6 OX01_6 F6 HR hbE hb ho00 ho01 le01 lt01
  go_wp2
  go_ret
  exact ⟨rfl, F7.out⟩

set_option maxHeartbeats 1000000 in
set_option maxRecDepth 100000 in
theorem walk (v00 : Value) (l00 : List Int) (v01 : Value) (l01 : List Int) (w : World) (x00 : Ints w v00 l00) (x01 : Ints w v01 l01) (hL : laidMetH Tryd.prog Rows.fnExactFormatTreeRow.laid w) : Calls Tryd.prog 6 #[.agg #[v00, v01]] w fun e w' => e = .returned (.bool true) ∧ Below w.heap.size w w' := by
  have HT := Lib.hid (table hL)
  have HL := Lib.hid hL
  clear hL
  by_cases hb0 : 1048576 < (l00.length : Int) + (l01.length : Int)
  · skip
    obtain ⟨a00, cap00, rfl, -, hm00⟩ := x00.form
    have HX00 := Lib.hid x00
    obtain ⟨a01, cap01, rfl, -, hm01⟩ := x01.form
    have HX01 := Lib.hid x01
    clear  x00 x01 
    have BA0_0 := Lib.hid (show Box (w.heap.size) [.slice a00 l00.length cap00, .slice a01 l01.length cap01] (w.alloc (.cells #[.slice a00 l00.length cap00, .slice a01 l01.length cap01] 42)) from (Box.new w 42 [.slice a00 l00.length cap00, .slice a01 l01.length cap01]))
    have F0 := Lib.hid (show Below w.heap.size w (w.alloc (.cells #[.slice a00 l00.length cap00, .slice a01 l01.length cap01] 42)) from ((Below.refl _ w).alloc (Nat.le_refl _) (.cells #[.slice a00 l00.length cap00, .slice a01 l01.length cap01] 42)))
    go_enter Tryd.func6, Tryd.ntmps6
    have cc00 : (w.alloc (.cells #[.slice a00 l00.length cap00, .slice a01 l01.length cap01] 42)).cell? ⟨w.heap.size, 0, none⟩ = some (.slice a00 l00.length cap00) := BA0_0.out.1 0 _ rfl
    have cc01 : (w.alloc (.cells #[.slice a00 l00.length cap00, .slice a01 l01.length cap01] 42)).cell? ⟨w.heap.size, 1, none⟩ = some (.slice a01 l01.length cap01) := BA0_0.out.1 1 _ rfl
    go_wp2_with fail
    refine (szTree_over _ _ l00 l01 _ _ (HX00.out.on F0.out) (HX01.out.on F0.out) (by omega) (by omega) (by omega)).mono ?_
    rintro e w1 ⟨rfl, hb⟩
    have BA0_1 := Lib.hid (BA0_0.out.on hb)
    have F1 := Lib.hid (F0.out.trans (hb.mono F0.out.size))
    clear hb BA0_0 F0 cc00 cc01
    go_wp2
    go_ret
    exact ⟨rfl, F1.out⟩
  exact core v00 l00 v01 l01 w x00 x01 HL.out (({ data := (treeT l00 l01).toArray } : ByteArray))  (by omega)
    (fun W u00 u01 h00 h01 _ _ => specFTree u00 u01 l00 l01 W h00 h01 (by omega) (by omega))
    (fun W u00 u01 hbel h00 h01 _ _ => implFTree u00 u01 l00 l01 W h00 h01 (by omega) (by omega) (HT.out.on hbel))

theorem door_met (os : Os) (args : Array Value) : laidMetH Tryd.prog Rows.fnExactFormatTreeRow.laid ((World.doorLaid Tryd.prog 400 os).forCall (fun _ _ => 0) ⟨#[], args, []⟩).memory :=
  laidMetH_of_parts3 (fuel := 8) (laidMet_of_run' 8 (by kernel_rfl) (by kernel_rfl)) (by kernel_rfl) (by kernel_rfl)

set_option maxRecDepth 100000 in
theorem lifted (os : Os) (started : os.Started) (H : Type) (enc : TypeId × Value → H) :
    ReturnsInHanded {} Tryd.checked os 6 .any (fun w args => (Rows.fnExactFormatTreeSpec.pre enc Tryd.prog Tryd.f6 [] false w args ∧ laidMetH Tryd.prog Rows.fnExactFormatTreeRow.laid w) ∧ sizedMet enc Tryd.prog Tryd.f6 (OpenSpec.ofChange Rows.fnExactFormatTreeSpec) false w args)
      (Rows.fnExactFormatTreeSpec.post enc Tryd.prog Tryd.f6 false true false false) := by
  refine returnsInHanded_of_change_and (C := Tryd.checked) (X := fun w _ => laidMetH Tryd.prog Rows.fnExactFormatTreeRow.laid w) (fun _ _ _ hh h => h.of_heap hh) own started (by kernel_rfl) Tryd.func6
    (ChangeSpec.witness_shaped (enc := enc) (C := Tryd.checked) (os := os) (X := fun w _ => laidMetH Tryd.prog Rows.fnExactFormatTreeRow.laid w) false (World.doorLaid Tryd.prog 400 os) #[.agg #[.slice none 0 0, .slice none 0 0]] 8 rfl (World.shaped_of_RefB (by kernel_rfl) (by kernel_rfl)) (by kernel_rfl) (by kernel_rfl) (by kernel_rfl) (door_met os _)) ?_
  intro W base args ds gs before hval0 hW _ _ hL _
  have hval : ∀ (j : Nat) t v, Tryd.f6.params[j]? = some t → args[j]? = some v → Value.okWide Tryd.prog W .any base t v := hval0
  have hW' := hW
  obtain ⟨p, q, hA0, hV, rfl, hfz, hnd⟩ := hW
  have hA : DataW.TrodAll enc Tryd.prog W 0 (fun _ => true) true Tryd.f6.params.toList args.toList ds p := hA0
  rw [Tryd.params6] at hA hval
  obtain ⟨v0, vs0, d0, ds0, p0, q0, hargs, rfl, rfl, h0, r0⟩ := trodAll_cons hA
  obtain ⟨rfl, rfl, rfl⟩ := trodAll_nil r0
  obtain rfl : args = #[v0] := by cases args; simp_all
  obtain ⟨rfl, rfl⟩ := trodVars_none hV
  have k0 := h0
  obtain ⟨u00, l00, u01, l01, rfl, x00, x01⟩ := open_ss Tryd.underlying42 (by kernel_rfl) (by kernel_rfl) Tryd.underlying24 Tryd.underlying24 Tryd.underlying3 (by kernel_rfl) (hval 0 42 v0 rfl rfl) h0
  clear hA0 hval0
  refine (walk u00 l00 u01 l01 W x00 x01 hL).mono fun e W' ⟨he, bel⟩ => ?_
  subst he
  exact ⟨_, rfl, _, _, _, [], _, [], hW', (trodAll_cons_mk (shut_bool Tryd.underlying4 _) trodAll_mk0), (trodAll_cons_mk (Below.trod laidOut (by kernel_rfl) (of_decide_eq_true (by kernel_rfl)) k0 bel (lt_of_trod k0)) trodAll_mk0), rfl, bel.frame _, fun h => by cases h⟩

theorem said : Rows.FnExactFormatTreeSaid :=
  OpenClaim.holds_of_wide 6 Tryd.f6 rfl rfl rfl rfl rfl rfl rfl ⟨rfl, rfl, rfl, rfl, rfl⟩ rfl rfl rfl rfl rfl (by kernel_rfl) Tryd.func6 (by kernel_rfl)
    (of_decide_eq_true (by kernel_rfl)) (by unfold Func.isWrapper; first | (rw [if_pos (by decide +kernel)]; kernel_rfl) | (rw [if_neg (by decide +kernel)]; exact ⟨rfl, rfl⟩))
    (fun os started H enc _ => lifted os started H enc)

theorem plain (f : FuncId) (fn : Func) (hf : Tryd.pinned.checked.prog.funcNamed "loop.example/g02081/laws.FnExactFormatTree" = some f) (hfn : Tryd.pinned.checked.prog.funcs[f]? = some fn) :
    false = Tryd.pinned.checked.prog.looks [] ∧ ∀ (j : Nat) t, fn.params[j]? = some t → Tryd.pinned.checked.prog.wantsStandIn t = false := by
  obtain rfl : f = 6 := Option.some.inj ((show Tryd.prog.funcNamed "loop.example/g02081/laws.FnExactFormatTree" = some 6 by kernel_rfl).symm.trans hf) |>.symm
  obtain rfl : fn = Tryd.f6 := (Option.some.inj (Tryd.func6.symm.trans hfn)).symm
  refine ⟨by kernel_rfl, fun j t ht => ?_⟩
  rw [Tryd.params6] at ht
  have hm : t ∈ [42] := by simpa using Array.mem_of_getElem? ht
  have hall : ([42].all fun u => !Tryd.prog.wantsStandIn u) = true := by kernel_rfl
  exact (show Tryd.prog.wantsStandIn t = false by simpa using List.all_eq_true.1 hall t hm)

theorem card : Rows.FnExactFormatTreeCardSaid :=
  Claim7.holds_tied_plain_at .later [] _ _ _ _ said (fun _ h => by cases h) (by kernel_rfl) (fun _ h => by cases h) fnExactFormatTree_row_tie rfl ⟨rfl, rfl⟩ (by kernel_rfl) rfl plain (by kernel_rfl)
#print axioms card
end Go.Proofs.YtcpchdnhhjhpaacDoor.fnExactFormatTree
