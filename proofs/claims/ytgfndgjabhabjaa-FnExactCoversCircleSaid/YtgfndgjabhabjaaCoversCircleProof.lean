/- Covering the circle: for all arcs of the bound and every set, both packages say the same. -/
import Derived.Test.YtgfndgjabhabjaaRows
import Derived.Test.YtgfndgjabhabjaaSh
import Derived.Test.YtgfndgjabhabjaaBx
import Derived.Test.YtgfndgjabhabjaaGl
import Derived.Test.YtgfndgjabhabjaaBt
import Derived.Test.YtgfndgjabhabjaaBx
import Derived.Test.YtgfndgjabhabjaaCo
import Derived.Test.YtgfndgjabhabjaaCv
import Derived.WalkKit
import Derived.Lib.LaidTab
import Derived.ProofKit
import Derived.LaidMore
import Derived.OpenShut
import Derived.ShutString
import Derived.ChangeOld
import Derived.Below
import Derived.Stop.Joined
import Derived.Stop.LaidErr
namespace Go.Proofs.Ytgfndgjabhabjaa.fnExactCoversCircle
open Go.ChangeShapes Go.WideShapes Go.ChangeAt Go.RowKit
open Go.ChangeMaps (open_string shut_string)
set_option linter.unusedVariables false

theorem own : ownKnob Try.prog.godebug = none := by kernel_rfl

theorem laidOut : laidOutB Try.prog = true := by kernel_rfl

set_option maxHeartbeats 4000000 in
set_option maxRecDepth 100000 in
theorem core (n0 : Int) (v01 : Value) (l01 : List Int) (v02 : Value) (l02 : List Int) (a1 : Int) (w : World) (w0 : (Lit.int .i64 n0).wf = true) (x01 : Ints w v01 l01) (x02 : Ints w v02 l02) (w1 : (Lit.int .i64 a1).wf = true) (r0 : Bool) (hbig : (l01.length : Int) + (l02.length : Int) ≤ 1048576)
    (hs : ∀ (W : World) (u01 : Value) (u02 : Value), Ints W u01 l01 → Ints W u02 l02 → (u01 = .slice none 0 0 ∨ ∃ ad cap, u01 = .slice (some ad) l01.length cap) → (u02 = .slice none 0 0 ∨ ∃ ad cap, u02 = .slice (some ad) l02.length cap) → Calls Try.prog 16 #[.agg #[.int .i64 n0, u01, u02], .int .i64 a1] W (fun e W' => e = .returned (.bool r0) ∧ Below W.heap.size W W'))
    (hi : ∀ (W : World) (u01 : Value) (u02 : Value), Ints W u01 l01 → Ints W u02 l02 → (u01 = .slice none 0 0 ∨ ∃ ad cap, u01 = .slice (some ad) l01.length cap) → (u02 = .slice none 0 0 ∨ ∃ ad cap, u02 = .slice (some ad) l02.length cap) → Calls Try.prog 18 #[.agg #[.int .i64 n0, u01, u02], .int .i64 a1] W (fun e W' => e = .returned (.bool r0) ∧ Below W.heap.size W W')) :
    Calls Try.prog 3 #[.agg #[.int .i64 n0, v01, v02], .int .i64 a1] w fun e w' => e = .returned (.bool true) ∧ Below w.heap.size w w' := by
  obtain ⟨a01, cap01, rfl, -, hm01⟩ := x01.form
  have HX01 := Lib.hid x01
  unfold maxLen at hm01
  clear hm01
  obtain ⟨a02, cap02, rfl, -, hm02⟩ := x02.form
  have HX02 := Lib.hid x02
  unfold maxLen at hm02
  clear hm02
  have HS := Lib.hid hs
  have HI := Lib.hid hi
  clear hs hi w0 x01 x02 
  have hne0 : (r0 != r0) = false := by simp
  have hp01 : (0 : Int) ≤ 1048576 - l01.length := by omega
  have hp02 : (0 : Int) ≤ 1048576 - l01.length - l02.length := by omega
  have hl901 : l01.length ≤ 100000000 := by omega
  have hl601 : l01.length ≤ 1048576 := by omega
  have hl902 : l02.length ≤ 100000000 := by omega
  have hl602 : l02.length ≤ 1048576 := by omega
  have BA0_0 := Lib.hid (show Box (w.heap.size) [.int .i64 n0, .slice a01 l01.length cap01, .slice a02 l02.length cap02] (w.alloc (.cells #[.int .i64 n0, .slice a01 l01.length cap01, .slice a02 l02.length cap02] 24)) from (Box.new w 24 [.int .i64 n0, .slice a01 l01.length cap01, .slice a02 l02.length cap02]))
  have F0 := Lib.hid (show Below w.heap.size w (w.alloc (.cells #[.int .i64 n0, .slice a01 l01.length cap01, .slice a02 l02.length cap02] 24)) from ((Below.refl _ w).alloc (Nat.le_refl _) (.cells #[.int .i64 n0, .slice a01 l01.length cap01, .slice a02 l02.length cap02] 24)))
  go_enter Try.func3, Try.ntmps3
  have cA00 : (w.alloc (.cells #[.int .i64 n0, .slice a01 l01.length cap01, .slice a02 l02.length cap02] 24)).cell? ⟨w.heap.size, 0, none⟩ = some (.int .i64 n0) := BA0_0.out.1 0 _ rfl
  have cA01 : (w.alloc (.cells #[.int .i64 n0, .slice a01 l01.length cap01, .slice a02 l02.length cap02] 24)).cell? ⟨w.heap.size, 1, none⟩ = some (.slice a01 l01.length cap01) := BA0_0.out.1 1 _ rfl
  have cA02 : (w.alloc (.cells #[.int .i64 n0, .slice a01 l01.length cap01, .slice a02 l02.length cap02] 24)).cell? ⟨w.heap.size, 2, none⟩ = some (.slice a02 l02.length cap02) := BA0_0.out.1 2 _ rfl
  have cA0z := BA0_0.out.2.2
  go_wp2_with fail
  refine (szArcs_fits n0 _ _ l01 l02 _ _ (HX01.out.on F0.out) (HX02.out.on F0.out) (by omega) (by omega)).mono ?_
  rintro e w1 ⟨rfl, hb⟩
  have BA0_1 := Lib.hid (BA0_0.out.on hb)
  have F1 := Lib.hid (F0.out.trans (hb.mono F0.out.size))
  have hz0 : w.heap.size + 1 ≤ w1.heap.size := BA0_1.out.2.2
  clear BA0_0 F0 hb cA00 cA01 cA02 cA0z
  have cA00 : w1.cell? ⟨w.heap.size, 0, none⟩ = some (.int .i64 n0) := BA0_1.out.1 0 _ rfl
  have cA01 : w1.cell? ⟨w.heap.size, 1, none⟩ = some (.slice a01 l01.length cap01) := BA0_1.out.1 1 _ rfl
  have cA02 : w1.cell? ⟨w.heap.size, 2, none⟩ = some (.slice a02 l02.length cap02) := BA0_1.out.1 2 _ rfl
  have cA0z := BA0_1.out.2.2
  go_wp2_with fail
  refine (toArcs_any n0 _ _ l01 l02 _ (HX01.out.on F1.out) (HX02.out.on F1.out) hl601 hl602).mono ?_
  rintro e w2 ⟨tw01, tw02, K02, rfl, ho01, ho02, le02, lt02, hb⟩
  have BA0_2 := Lib.hid (BA0_1.out.on hb)
  have F2 := Lib.hid (F1.out.trans (hb.mono F1.out.size))
  have hz1 : w1.heap.size ≤ w2.heap.size := hb.size
  replace ho02 := ho02.mono (le02)
  have OT01_2 := Lib.hid (show OwnR w1.heap.size w2.heap.size w2 (tw01) l01 from ⟨ho01, fun k hk => (ho01.lt k hk).2⟩)
  have OT02_2 := Lib.hid (show OwnR w1.heap.size w2.heap.size w2 (tw02) l02 from ⟨ho02, fun k hk => (ho02.lt k hk).2⟩)
  clear BA0_1 F1 hb ho01 ho02 le02 lt02 cA00 cA01 cA02 cA0z
  go_wp2_with fail
  refine (HS.out _ _ _ OT01_2.out.1.ints OT02_2.out.1.ints OT01_2.out.1.nilform OT02_2.out.1.nilform).mono ?_
  rintro e w3 ⟨rfl, hb⟩
  have BA0_3 := Lib.hid (BA0_2.out.on hb)
  have OT01_3 := Lib.hid (OT01_2.out.on hb)
  have OT02_3 := Lib.hid (OT02_2.out.on hb)
  have F3 := Lib.hid (F2.out.trans (hb.mono F2.out.size))
  have hz2 : w2.heap.size ≤ w3.heap.size := hb.size
  clear BA0_2 OT01_2 OT02_2 F2 hb
  have cA00 : w3.cell? ⟨w.heap.size, 0, none⟩ = some (.int .i64 n0) := BA0_3.out.1 0 _ rfl
  have cA01 : w3.cell? ⟨w.heap.size, 1, none⟩ = some (.slice a01 l01.length cap01) := BA0_3.out.1 1 _ rfl
  have cA02 : w3.cell? ⟨w.heap.size, 2, none⟩ = some (.slice a02 l02.length cap02) := BA0_3.out.1 2 _ rfl
  have cA0z := BA0_3.out.2.2
  go_wp2_with fail
  refine (toArcs_any n0 _ _ l01 l02 _ (HX01.out.on F3.out) (HX02.out.on F3.out) hl601 hl602).mono ?_
  rintro e w4 ⟨vx01, vx02, K02, rfl, ho01, ho02, le02, lt02, hb⟩
  have BA0_4 := Lib.hid (BA0_3.out.on hb)
  have F4 := Lib.hid (F3.out.trans (hb.mono F3.out.size))
  have hz3 : w3.heap.size ≤ w4.heap.size := hb.size
  replace ho02 := ho02.mono (le02)
  have OX01_4 := Lib.hid (show OwnR w3.heap.size w4.heap.size w4 (vx01) l01 from ⟨ho01, fun k hk => (ho01.lt k hk).2⟩)
  have OX02_4 := Lib.hid (show OwnR w3.heap.size w4.heap.size w4 (vx02) l02 from ⟨ho02, fun k hk => (ho02.lt k hk).2⟩)
  clear BA0_3 F3 hb ho01 ho02 le02 lt02 cA00 cA01 cA02 cA0z
  obtain ⟨ax01, capx01, hvx01⟩ : ∃ a c, vx01 = .slice a l01.length c := by obtain ⟨a, c, h, -, -⟩ := OX01_4.out.1.ints.form; exact ⟨a, c, h⟩
  subst hvx01
  obtain ⟨ax02, capx02, hvx02⟩ : ∃ a c, vx02 = .slice a l02.length c := by obtain ⟨a, c, h, -, -⟩ := OX02_4.out.1.ints.form; exact ⟨a, c, h⟩
  subst hvx02
  obtain ⟨w5, hw5⟩ : ∃ w5, w5 = w4.alloc (.cells #[.int .i64 n0, .slice ax01 l01.length capx01, .slice ax02 l02.length capx02] 27) := ⟨_, rfl⟩
  have hb : Below w4.heap.size w4 w5 := by rw [hw5]; exact (Below.refl _ _).alloc (Nat.le_refl _) _
  have hzs4 : w4.heap.size < w5.heap.size := by rw [hw5]; simp
  have BA0_5 := Lib.hid (BA0_4.out.on hb)
  have OX01_5 := Lib.hid (OX01_4.out.on hb)
  have OX02_5 := Lib.hid (OX02_4.out.on hb)
  have F5 := Lib.hid (F4.out.trans (hb.mono F4.out.size))
  have hz4 : w4.heap.size ≤ w5.heap.size := hb.size
  have BX0_5 := Lib.hid (show Box w4.heap.size [.int .i64 n0, .slice ax01 l01.length capx01, .slice ax02 l02.length capx02] w5 by rw [hw5]; exact Box.new w4 _ _)
  go_wp2_with fail
  rw [← hw5]
  clear BA0_4 OX01_4 OX02_4 F4 hb hw5
  refine (HI.out _ _ _ OX01_5.out.1.ints OX02_5.out.1.ints OX01_5.out.1.nilform OX02_5.out.1.nilform).mono ?_
  rintro e w6 ⟨rfl, hb⟩
  have BA0_6 := Lib.hid (BA0_5.out.on hb)
  have BX0_6 := Lib.hid (BX0_5.out.on hb)
  have OX01_6 := Lib.hid (OX01_5.out.on hb)
  have OX02_6 := Lib.hid (OX02_5.out.on hb)
  have F6 := Lib.hid (F5.out.trans (hb.mono F5.out.size))
  have hz5 : w5.heap.size ≤ w6.heap.size := hb.size
  clear BA0_5 BX0_5 OX01_5 OX02_5 F5 hb
  have HR : Hid (∀ W, Below w6.heap.size w6 W → W.cell? ⟨w.heap.size, 0, none⟩ = some (.int .i64 n0) ∧ W.cell? ⟨w.heap.size, 1, none⟩ = some (.slice a01 l01.length cap01) ∧ W.cell? ⟨w.heap.size, 2, none⟩ = some (.slice a02 l02.length cap02) ∧ W.cell? ⟨w4.heap.size, 0, none⟩ = some (.int .i64 n0) ∧ W.cell? ⟨w4.heap.size, 1, none⟩ = some (.slice ax01 l01.length capx01) ∧ W.cell? ⟨w4.heap.size, 2, none⟩ = some (.slice ax02 l02.length capx02) ∧ Ints W (.slice a01 l01.length cap01) l01 ∧ Ints W (.slice a02 l02.length cap02) l02 ∧ Ints W (.slice ax01 l01.length capx01) l01 ∧ Ints W (.slice ax02 l02.length capx02) l02 ∧ Below w6.heap.size w6 W) := fun W hb => ⟨(BA0_6.out.on hb).1 0 _ rfl, (BA0_6.out.on hb).1 1 _ rfl, (BA0_6.out.on hb).1 2 _ rfl, (BX0_6.out.on hb).1 0 _ rfl, (BX0_6.out.on hb).1 1 _ rfl, (BX0_6.out.on hb).1 2 _ rfl, HX01.out.on (F6.out.trans (hb.mono F6.out.size)), HX02.out.on (F6.out.trans (hb.mono F6.out.size)), (OX01_6.out.on hb).1.ints, (OX02_6.out.on hb).1.ints, hb⟩
  go_wp2
  go_region_held3 (fun w' => w'.cell? ⟨w.heap.size, 0, none⟩ = some (.int .i64 n0) ∧ w'.cell? ⟨w.heap.size, 1, none⟩ = some (.slice a01 l01.length cap01) ∧ w'.cell? ⟨w.heap.size, 2, none⟩ = some (.slice a02 l02.length cap02) ∧ w'.cell? ⟨w4.heap.size, 0, none⟩ = some (.int .i64 n0) ∧ w'.cell? ⟨w4.heap.size, 1, none⟩ = some (.slice ax01 l01.length capx01) ∧ w'.cell? ⟨w4.heap.size, 2, none⟩ = some (.slice ax02 l02.length capx02) ∧ Ints w' (.slice a01 l01.length cap01) l01 ∧ Ints w' (.slice a02 l02.length cap02) l02 ∧ Ints w' (.slice ax01 l01.length capx01) l01 ∧ Ints w' (.slice ax02 l02.length capx02) l02 ∧ Below w6.heap.size w6 w')
    (first | exact HR.out _ (Below.refl _ _).drew | exact HR.out _ (Below.refl _ _) | (go_split_ands; exact HR.out _ (btrans (by assumption) hb)))
    (first
      | (go_at_call 17; go_split_ands; refine (toArcs_any n0 _ _ l01 l02 _ (by assumption) (by assumption) hl601 hl602).mono ?_; rintro e wa ⟨vy01, vy02, K02, rfl, ho01, ho02, le02, lt02, hb⟩)
      | (go_at_call 19; go_split_ands; refine (eqArcs_same n0 _ _ _ _ l01 l02 _ (by assumption) (by assumption) ho01.ints ho02.ints hl901 hl902).mono ?_; rintro e w7 ⟨rfl, hb⟩))
  go_split_ands
  have hbE : Below w6.heap.size w6 w7 := by assumption
  have BA0_7 := Lib.hid (BA0_6.out.on hbE)
  have BX0_7 := Lib.hid (BX0_6.out.on hbE)
  have OX01_7 := Lib.hid (OX01_6.out.on hbE)
  have OX02_7 := Lib.hid (OX02_6.out.on hbE)
  have F7 := Lib.hid (F6.out.trans (hbE.mono F6.out.size))
  have hz6 : w6.heap.size ≤ w7.heap.size := hbE.size
  clear BA0_6 BX0_6 OX01_6 OX02_6 F6 HR hbE hb ho01 ho02 le02 lt02
  go_wp2
  go_ret
  exact ⟨rfl, F7.out⟩

set_option maxHeartbeats 1000000 in
set_option maxRecDepth 100000 in
theorem walk (n0 : Int) (v01 : Value) (l01 : List Int) (v02 : Value) (l02 : List Int) (a1 : Int) (w : World) (w0 : (Lit.int .i64 n0).wf = true) (x01 : Ints w v01 l01) (x02 : Ints w v02 l02) (w1 : (Lit.int .i64 a1).wf = true) : Calls Try.prog 3 #[.agg #[.int .i64 n0, v01, v02], .int .i64 a1] w fun e w' => e = .returned (.bool true) ∧ Below w.heap.size w w' := by
  by_cases hb0 : 1048576 < (l01.length : Int) + (l02.length : Int)
  · skip
    obtain ⟨a01, cap01, rfl, -, hm01⟩ := x01.form
    have HX01 := Lib.hid x01
    obtain ⟨a02, cap02, rfl, -, hm02⟩ := x02.form
    have HX02 := Lib.hid x02
    clear w0 x01 x02 
    have BA0_0 := Lib.hid (show Box (w.heap.size) [.int .i64 n0, .slice a01 l01.length cap01, .slice a02 l02.length cap02] (w.alloc (.cells #[.int .i64 n0, .slice a01 l01.length cap01, .slice a02 l02.length cap02] 24)) from (Box.new w 24 [.int .i64 n0, .slice a01 l01.length cap01, .slice a02 l02.length cap02]))
    have F0 := Lib.hid (show Below w.heap.size w (w.alloc (.cells #[.int .i64 n0, .slice a01 l01.length cap01, .slice a02 l02.length cap02] 24)) from ((Below.refl _ w).alloc (Nat.le_refl _) (.cells #[.int .i64 n0, .slice a01 l01.length cap01, .slice a02 l02.length cap02] 24)))
    go_enter Try.func3, Try.ntmps3
    have cc00 : (w.alloc (.cells #[.int .i64 n0, .slice a01 l01.length cap01, .slice a02 l02.length cap02] 24)).cell? ⟨w.heap.size, 0, none⟩ = some (.int .i64 n0) := BA0_0.out.1 0 _ rfl
    have cc01 : (w.alloc (.cells #[.int .i64 n0, .slice a01 l01.length cap01, .slice a02 l02.length cap02] 24)).cell? ⟨w.heap.size, 1, none⟩ = some (.slice a01 l01.length cap01) := BA0_0.out.1 1 _ rfl
    have cc02 : (w.alloc (.cells #[.int .i64 n0, .slice a01 l01.length cap01, .slice a02 l02.length cap02] 24)).cell? ⟨w.heap.size, 2, none⟩ = some (.slice a02 l02.length cap02) := BA0_0.out.1 2 _ rfl
    go_wp2_with fail
    refine (szArcs_over n0 _ _ l01 l02 _ _ (HX01.out.on F0.out) (HX02.out.on F0.out) (by omega) (by omega) (by omega)).mono ?_
    rintro e w1 ⟨rfl, hb⟩
    have BA0_1 := Lib.hid (BA0_0.out.on hb)
    have F1 := Lib.hid (F0.out.trans (hb.mono F0.out.size))
    clear hb BA0_0 F0 cc00 cc01 cc02
    go_wp2
    go_ret
    exact ⟨rfl, F1.out⟩
  exact core n0 v01 l01 v02 l02 a1 w w0 x01 x02 w1 (decide (CovP n0 l01 l02 a1))  (by omega)
    (fun W u01 u02 h01 h02 _ _ => (specCovers n0 u01 u02 l01 l02 a1 W h01 h02 (by omega) (by omega) (wf_bdC w0).1 (wf_bdC w0).2).mono fun _ _ h => h.dec)
    (fun W u01 u02 h01 h02 _ _ => (implCovers n0 u01 u02 l01 l02 a1 W h01 h02 (by omega) (by omega) (wf_bdC w1).1 (wf_bdC w1).2).mono fun _ _ h => h.dec)

set_option maxRecDepth 100000 in
theorem lifted (os : Os) (started : os.Started) (H : Type) (enc : TypeId × Value → H) :
    ReturnsInHanded {} Try.checked os 3 .any (Rows.fnExactCoversCircleSpec.pre6 enc Try.prog Try.f3 Rows.fnExactCoversCircleRow.domain false) (Rows.fnExactCoversCircleSpec.post enc Try.prog Try.f3 false true false false) := by
  refine returnsInHanded_of_change (C := Try.checked) own started (by kernel_rfl) Try.func3
    (ChangeSpec.witness6 (enc := enc) (C := Try.checked) false ⟨#[], #[.agg #[.int .i64 0, .slice none 0 0, .slice none 0 0], .int .i64 0], []⟩ 8 (by kernel_rfl) (by kernel_rfl) (by kernel_rfl) (by kernel_rfl)) ?_
  intro W base args ds gs before hval0 hW hcnd _
  have hval : ∀ (j : Nat) t v, Try.f3.params[j]? = some t → args[j]? = some v → Value.okWide Try.prog W .any base t v := hval0
  have hW' := hW
  obtain ⟨p, q, hA0, hV, rfl, hfz, hnd⟩ := hW
  have hA : DataW.TrodAll enc Try.prog W 0 (fun _ => true) true Try.f3.params.toList args.toList ds p := hA0
  rw [Try.params3] at hA hval
  obtain ⟨v0, vs0, d0, ds0, p0, q0, hargs, rfl, rfl, h0, r0⟩ := trodAll_cons hA
  obtain ⟨v1, vs1, d1, ds1, p1, q1, rfl, rfl, rfl, h1, r1⟩ := trodAll_cons r0
  obtain ⟨rfl, rfl, rfl⟩ := trodAll_nil r1
  obtain rfl : args = #[v0, v1] := by cases args; simp_all
  obtain ⟨rfl, rfl⟩ := trodVars_none hV
  have k0 := h0
  obtain ⟨n0, u01, l01, u02, l02, rfl, w0, x01, x02⟩ := open_iss Try.underlying24 (by kernel_rfl) (by kernel_rfl) Try.underlying3 Try.underlying22 Try.underlying22 Try.underlying3 (by kernel_rfl) (hval 0 24 v0 rfl rfl) h0
  obtain ⟨a1, rfl, rfl, rfl, w1⟩ := open_int Try.underlying3 (hval 1 3 v1 rfl rfl) h1
  clear hA0 hval0
  refine (walk n0 u01 l01 u02 l02 a1 W w0 x01 x02 w1).mono fun e W' ⟨he, bel⟩ => ?_
  subst he
  exact ⟨_, rfl, _, _, _, [], _, [], hW', (trodAll_cons_mk (shut_bool Try.underlying4 _) trodAll_mk0), (trodAll_cons_mk (Below.trod laidOut (by kernel_rfl) (of_decide_eq_true (by kernel_rfl)) k0 bel (lt_of_trod k0)) (trodAll_cons_mk (shut_int Try.underlying3 w1) trodAll_mk0)), rfl, bel.frame _, fun h => by cases h⟩

theorem proved : Rows.FnExactCoversCircleSaid :=
  OpenClaim.holds_of_wide 3 Try.f3 rfl rfl rfl rfl rfl rfl rfl ⟨rfl, rfl, rfl, rfl, rfl⟩ rfl rfl rfl rfl rfl (by kernel_rfl) Try.func3 (by kernel_rfl)
    (of_decide_eq_true (by kernel_rfl)) (by unfold Func.isWrapper; first | (rw [if_pos (by decide +kernel)]; kernel_rfl) | (rw [if_neg (by decide +kernel)]; exact ⟨rfl, rfl⟩))
    (fun os started H enc _ => lifted os started H enc)
#print axioms proved
end Go.Proofs.Ytgfndgjabhabjaa.fnExactCoversCircle
