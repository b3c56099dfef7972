/- For all lists of ints of at most 1048576 members each, PermutationOfModel answers as its specification does and writes into no argument. -/
import Derived.Test.YtbgkceekkinngacRows
import Derived.Test.YtbgkceekkinngacSh
import Derived.Test.YtbgkceekkinngacK5
import Derived.Test.YtbgkceekkinngacGl
import Derived.WalkKit
import Derived.Lib.LaidTab
import Derived.ProofKit
import Derived.LaidMore
import Derived.OpenShut
import Derived.ShutString
import Derived.ChangeOld
import Derived.Below
import Derived.Stop.Joined
import Derived.Stop.LaidErr
namespace Go.Proofs.Ytbgkceekkinngac.fnExactPermutationOfModel
open Go.ChangeShapes Go.WideShapes Go.ChangeAt Go.RowKit
open Go.ChangeMaps (open_string shut_string)
set_option linter.unusedVariables false

theorem own : ownKnob Try.prog.godebug = none := by kernel_rfl

theorem laidOut : laidOutB Try.prog = true := by kernel_rfl

set_option maxHeartbeats 4000000 in
set_option maxRecDepth 100000 in
theorem core (v0 : Value) (l0 : List Int) (v1 : Value) (l1 : List Int) (w : World) (w0 : Ints w v0 l0) (w1 : Ints w v1 l1) (l' : List Int) (r1 : Bool) (hl' : l'.length ≤ 1048576) (hs0 : (l0.length : Int) ≤ 1048576) (hs1 : (l1.length : Int) ≤ 1048576)
    (hs : ∀ (W : World) (u0 : Value) (u1 : Value), Ints W u0 l0 → Ints W u1 l1 → (u0 = .slice none 0 0 ∨ ∃ ad cap, u0 = .slice (some ad) l0.length cap) → (u1 = .slice none 0 0 ∨ ∃ ad cap, u1 = .slice (some ad) l1.length cap) → Calls Try.prog 50 #[u0, u1] W (fun e W' => ∃ vr, e = .returned (.tuple #[vr, .bool r1]) ∧ OwnI W.heap.size W' vr l' ∧ Below W.heap.size W W'))
    (hi : ∀ (W : World) (u0 : Value) (u1 : Value), Ints W u0 l0 → Ints W u1 l1 → (u0 = .slice none 0 0 ∨ ∃ ad cap, u0 = .slice (some ad) l0.length cap) → (u1 = .slice none 0 0 ∨ ∃ ad cap, u1 = .slice (some ad) l1.length cap) → Calls Try.prog 51 #[u0, u1] W (fun e W' => ∃ vr, e = .returned (.tuple #[vr, .bool r1]) ∧ OwnI W.heap.size W' vr l' ∧ Below W.heap.size W W')) :
    Calls Try.prog 12 #[v0, v1] w fun e w' => e = .returned (.bool true) ∧ Below w.heap.size w w' := by
  obtain ⟨a0, cap0, rfl, -, hm0⟩ := w0.form
  have HX0 := Lib.hid w0
  unfold maxLen at hm0
  obtain ⟨a1, cap1, rfl, -, hm1⟩ := w1.form
  have HX1 := Lib.hid w1
  unfold maxLen at hm1
  have HS := Lib.hid hs
  have HI := Lib.hid hi
  clear hs hi w0 w1 
  have hne1 : (r1 != r1) = false := by simp
  have hp0 : (0 : Int) ≤ 1048576 - l0.length := by omega
  have hl90 : l0.length ≤ 100000000 := by omega
  have hl60 : l0.length ≤ 1048576 := by omega
  have hp1 : (0 : Int) ≤ 1048576 - l1.length := by omega
  have hl91 : l1.length ≤ 100000000 := by omega
  have hl61 : l1.length ≤ 1048576 := by omega
  have hd0 : decide (1048576 < (l0.length : Int)) = false := by simp; omega
  have hd1 : decide (1048576 < (l1.length : Int)) = false := by simp; omega
  have hl9' : l'.length ≤ 100000000 := by omega
  have F0 := Lib.hid (Below.refl w.heap.size w)
  go_enter Try.func12, Try.ntmps12
  go_wp2_with fail
  refine (toIntS_any _ l0 _ (HX0.out.on F0.out) hl60).mono ?_
  rintro e w1 ⟨s0, rfl, ho, hb⟩
  have F1 := Lib.hid (F0.out.trans (hb.mono F0.out.size))
  have hz0 : w.heap.size ≤ w1.heap.size := hb.size
  have OT01 := Lib.hid ho
  clear F0 hb ho
  go_wp2_with fail
  refine (toIntS_any _ l1 _ (HX1.out.on F1.out) hl61).mono ?_
  rintro e w2 ⟨s1, rfl, ho, hb⟩
  have OT02 := Lib.hid (OT01.out.keep (below_grown hb) (by simp))
  have F2 := Lib.hid (F1.out.trans (hb.mono F1.out.size))
  have hz1 : w1.heap.size ≤ w2.heap.size := hb.size
  have OT12 := Lib.hid ho
  clear OT01 F1 hb ho
  go_wp2_with fail
  refine (HS.out _ _ _ OT02.out.ints OT12.out.ints OT02.out.nilform OT12.out.nilform).mono ?_
  rintro e w3 ⟨vw, rfl, ho, hb⟩
  have OT03 := Lib.hid (OT02.out.keep (below_grown hb) (by simp))
  have OT13 := Lib.hid (OT12.out.keep (below_grown hb) (by simp))
  have F3 := Lib.hid (F2.out.trans (hb.mono F2.out.size))
  have hz2 : w2.heap.size ≤ w3.heap.size := hb.size
  have WL := Lib.hid ho.lt
  have OW3 := Lib.hid ho
  clear OT02 OT12 F2 hb ho
  go_wp2_with fail
  refine (toIntS_any _ l0 _ (HX0.out.on F3.out) hl60).mono ?_
  rintro e w4 ⟨vx0, rfl, ho, hb⟩
  have OW4 := Lib.hid (OW3.out.keep (below_grown hb) (by simp))
  have F4 := Lib.hid (F3.out.trans (hb.mono F3.out.size))
  have hz3 : w3.heap.size ≤ w4.heap.size := hb.size
  have X0L := Lib.hid ho.lt
  have OX04 := Lib.hid ho
  clear OW3 F3 hb ho
  go_wp2_with fail
  refine (toIntS_any _ l1 _ (HX1.out.on F4.out) hl61).mono ?_
  rintro e w5 ⟨vx1, rfl, ho, hb⟩
  have OW5 := Lib.hid (OW4.out.keep (below_grown hb) (by simp))
  have OX05 := Lib.hid (OX04.out.keep (below_grown hb) (by simp))
  have F5 := Lib.hid (F4.out.trans (hb.mono F4.out.size))
  have hz4 : w4.heap.size ≤ w5.heap.size := hb.size
  have X1L := Lib.hid ho.lt
  have OX15 := Lib.hid ho
  clear OW4 OX04 F4 hb ho
  go_wp2_with fail
  refine (HI.out _ _ _ OX05.out.ints OX15.out.ints OX05.out.nilform OX15.out.nilform).mono ?_
  rintro e w6 ⟨vg, rfl, ho, hb⟩
  have OW6 := Lib.hid (OW5.out.keep (below_grown hb) (by simp))
  have OX06 := Lib.hid (OX05.out.keep (below_grown hb) (by simp))
  have OX16 := Lib.hid (OX15.out.keep (below_grown hb) (by simp))
  have F6 := Lib.hid (F5.out.trans (hb.mono F5.out.size))
  have hz5 : w5.heap.size ≤ w6.heap.size := hb.size
  have GL := Lib.hid ho.lt
  have OG6 := Lib.hid ho
  clear OW5 OX05 OX15 F5 hb ho
  go_wp2_with fail
  refine (eqIntS_same _ _ l' _ OG6.out.ints OW6.out.ints hl9').mono ?_
  rintro e w7 ⟨rfl, hb⟩
  have OW7 := Lib.hid (OW6.out.keep (below_grown hb) (by simp))
  have OX07 := Lib.hid (OX06.out.keep (below_grown hb) (by simp))
  have OX17 := Lib.hid (OX16.out.keep (below_grown hb) (by simp))
  have OG7 := Lib.hid (OG6.out.keep (below_grown hb) (by simp))
  have F7 := Lib.hid (F6.out.trans (hb.mono F6.out.size))
  have hz6 : w6.heap.size ≤ w7.heap.size := hb.size
  clear OW6 OX06 OX16 OG6 F6 hb
  go_wp2_with fail
  refine (toIntS_any _ l0 _ (HX0.out.on F7.out) hl60).mono ?_
  rintro e w8 ⟨vy0, rfl, ho, hb⟩
  have OW8 := Lib.hid (OW7.out.keep (below_grown hb) (by simp))
  have OX08 := Lib.hid (OX07.out.keep (below_grown hb) (by simp))
  have OX18 := Lib.hid (OX17.out.keep (below_grown hb) (by simp))
  have OG8 := Lib.hid (OG7.out.keep (below_grown hb) (by simp))
  have F8 := Lib.hid (F7.out.trans (hb.mono F7.out.size))
  have hz7 : w7.heap.size ≤ w8.heap.size := hb.size
  have OT08 := Lib.hid ho
  clear OW7 OX07 OX17 OG7 F7 hb ho
  go_wp2_with fail
  refine (eqIntS_same _ _ l0 _ OX08.out.ints OT08.out.ints hl90).mono ?_
  rintro e w9 ⟨rfl, hb⟩
  have OW9 := Lib.hid (OW8.out.keep (below_grown hb) (by simp))
  have OX09 := Lib.hid (OX08.out.keep (below_grown hb) (by simp))
  have OX19 := Lib.hid (OX18.out.keep (below_grown hb) (by simp))
  have OG9 := Lib.hid (OG8.out.keep (below_grown hb) (by simp))
  have OT09 := Lib.hid (OT08.out.keep (below_grown hb) (by simp))
  have F9 := Lib.hid (F8.out.trans (hb.mono F8.out.size))
  have hz8 : w8.heap.size ≤ w9.heap.size := hb.size
  clear OW8 OX08 OX18 OG8 OT08 F8 hb
  go_wp2_with fail
  refine (toIntS_any _ l1 _ (HX1.out.on F9.out) hl61).mono ?_
  rintro e w10 ⟨vy1, rfl, ho, hb⟩
  have OW10 := Lib.hid (OW9.out.keep (below_grown hb) (by simp))
  have OX010 := Lib.hid (OX09.out.keep (below_grown hb) (by simp))
  have OX110 := Lib.hid (OX19.out.keep (below_grown hb) (by simp))
  have OG10 := Lib.hid (OG9.out.keep (below_grown hb) (by simp))
  have F10 := Lib.hid (F9.out.trans (hb.mono F9.out.size))
  have hz9 : w9.heap.size ≤ w10.heap.size := hb.size
  have OT110 := Lib.hid ho
  clear OW9 OX09 OX19 OG9 F9 hb ho
  go_wp2_with fail
  refine (eqIntS_same _ _ l1 _ OX110.out.ints OT110.out.ints hl91).mono ?_
  rintro e w11 ⟨rfl, hb⟩
  have OW11 := Lib.hid (OW10.out.keep (below_grown hb) (by simp))
  have OX011 := Lib.hid (OX010.out.keep (below_grown hb) (by simp))
  have OX111 := Lib.hid (OX110.out.keep (below_grown hb) (by simp))
  have OG11 := Lib.hid (OG10.out.keep (below_grown hb) (by simp))
  have OT111 := Lib.hid (OT110.out.keep (below_grown hb) (by simp))
  have F11 := Lib.hid (F10.out.trans (hb.mono F10.out.size))
  have hz10 : w10.heap.size ≤ w11.heap.size := hb.size
  clear OW10 OX010 OX110 OG10 OT110 F10 hb
  go_wp2_with fail
  refine (markIntS_any _ _ l0 (1 : Int) _ OX011.out hl90 (by omega) (by omega)).mono ?_
  rintro e w12 ⟨rfl, ho, hg⟩
  have OW12 := Lib.hid (OW11.out.keep hg (fun k hk j hj => by have := X0L.out _ hk; have := WL.out _ hj; omega))
  have OX112 := Lib.hid (OX111.out.keep hg (fun k hk j hj => by have := X0L.out _ hk; have := X1L.out _ hj; omega))
  have OG12 := Lib.hid (OG11.out.keep hg (fun k hk j hj => by have := X0L.out _ hk; have := GL.out _ hj; omega))
  have F12 := Lib.hid (F11.out.grown hg F11.out.size (fun k hk => by have := (X0L.out _ hk).1; omega))
  have hz11 : w11.heap.size ≤ w12.heap.size := hg.size
  clear OW11 OX011 OX111 OG11 F11 hg ho
  go_wp2_with fail
  refine (markIntS_any _ _ l1 (1 + (l0.length : Int)) _ OX112.out hl91 (by omega) (by omega)).mono ?_
  rintro e w13 ⟨rfl, ho, hg⟩
  have OW13 := Lib.hid (OW12.out.keep hg (fun k hk j hj => by have := X1L.out _ hk; have := WL.out _ hj; omega))
  have OG13 := Lib.hid (OG12.out.keep hg (fun k hk j hj => by have := X1L.out _ hk; have := GL.out _ hj; omega))
  have F13 := Lib.hid (F12.out.grown hg F12.out.size (fun k hk => by have := (X1L.out _ hk).1; omega))
  have hz12 : w12.heap.size ≤ w13.heap.size := hg.size
  clear OW12 OX112 OG12 F12 hg ho
  have hk : decide ((1 + (l0.length : Int) + l1.length) < 0) = false := by simp; omega
  go_wp2_with fail
  refine (eqIntS_same _ _ l' _ OG13.out.ints OW13.out.ints hl9').mono ?_
  rintro e w14 ⟨rfl, hb⟩
  have OW14 := Lib.hid (OW13.out.keep (below_grown hb) (by simp))
  have OG14 := Lib.hid (OG13.out.keep (below_grown hb) (by simp))
  have F14 := Lib.hid (F13.out.trans (hb.mono F13.out.size))
  have hz13 : w13.heap.size ≤ w14.heap.size := hb.size
  clear OW13 OG13 F13 hb
  go_wp2_with fail
  refine (markIntS_any _ _ l' 1 _ OG14.out hl9' (by omega) (by omega)).mono ?_
  rintro e w15 ⟨rfl, ho, hg⟩
  have OW15 := Lib.hid (OW14.out.keep hg (fun k hk j hj => by have := GL.out _ hk; have := WL.out _ hj; omega))
  have F15 := Lib.hid (F14.out.grown hg F14.out.size (fun k hk => by have := (GL.out _ hk).1; omega))
  have OG15 := Lib.hid ho
  have hz14 : w14.heap.size ≤ w15.heap.size := hg.size
  clear OW14 OG14 F14 hg ho
  go_wp2_with fail
  refine (heldIntS_any _ 1 l'.length _ OG15.out.ints hl9' (by omega) (by omega)).mono ?_
  rintro e w16 ⟨rfl, hb⟩
  replace hb := eq_below hb
  have OW16 := Lib.hid (OW15.out.keep (below_grown hb) (by simp))
  have OG16 := Lib.hid (OG15.out.keep (below_grown hb) (by simp))
  have F16 := Lib.hid (F15.out.trans (hb.mono F15.out.size))
  have hz15 : w15.heap.size ≤ w16.heap.size := hb.size
  clear OW15 OG15 F15 hb
  have hk' : decide ((1 : Int) + l'.length < 0) = false := by simp; omega
  have hq : ((1 : Int) + l'.length != 1 + l'.length) = false := by simp
  go_wp2_with fail
  refine (toIntS_any _ l0 _ (HX0.out.on F16.out) hl60).mono ?_
  rintro e w17 ⟨t0, rfl, ho, hb⟩
  have OW17 := Lib.hid (OW16.out.keep (below_grown hb) (by simp))
  have OG17 := Lib.hid (OG16.out.keep (below_grown hb) (by simp))
  have F17 := Lib.hid (F16.out.trans (hb.mono F16.out.size))
  have hz16 : w16.heap.size ≤ w17.heap.size := hb.size
  have OT017 := Lib.hid ho
  clear OW16 OG16 F16 hb ho
  go_wp2_with fail
  refine (toIntS_any _ l1 _ (HX1.out.on F17.out) hl61).mono ?_
  rintro e w18 ⟨t1, rfl, ho, hb⟩
  have OW18 := Lib.hid (OW17.out.keep (below_grown hb) (by simp))
  have OG18 := Lib.hid (OG17.out.keep (below_grown hb) (by simp))
  have OT018 := Lib.hid (OT017.out.keep (below_grown hb) (by simp))
  have F18 := Lib.hid (F17.out.trans (hb.mono F17.out.size))
  have hz17 : w17.heap.size ≤ w18.heap.size := hb.size
  have OT118 := Lib.hid ho
  clear OW17 OG17 OT017 F17 hb ho
  go_wp2_with fail
  refine (HI.out _ _ _ OT018.out.ints OT118.out.ints OT018.out.nilform OT118.out.nilform).mono ?_
  rintro e w19 ⟨vh, rfl, ho, hb⟩
  have OW19 := Lib.hid (OW18.out.keep (below_grown hb) (by simp))
  have OG19 := Lib.hid (OG18.out.keep (below_grown hb) (by simp))
  have OT019 := Lib.hid (OT018.out.keep (below_grown hb) (by simp))
  have OT119 := Lib.hid (OT118.out.keep (below_grown hb) (by simp))
  have F19 := Lib.hid (F18.out.trans (hb.mono F18.out.size))
  have hz18 : w18.heap.size ≤ w19.heap.size := hb.size
  have HL := Lib.hid ho.lt
  have OH19 := Lib.hid ho
  clear OW18 OG18 OT018 OT118 F18 hb ho
  go_wp2_with fail
  refine (eqIntS_same _ _ l' _ OH19.out.ints OW19.out.ints hl9').mono ?_
  rintro e w20 ⟨rfl, hb⟩
  have OW20 := Lib.hid (OW19.out.keep (below_grown hb) (by simp))
  have OG20 := Lib.hid (OG19.out.keep (below_grown hb) (by simp))
  have OH20 := Lib.hid (OH19.out.keep (below_grown hb) (by simp))
  have F20 := Lib.hid (F19.out.trans (hb.mono F19.out.size))
  have hz19 : w19.heap.size ≤ w20.heap.size := hb.size
  clear OW19 OG19 OH19 F19 hb
  go_wp2_with fail
  refine (heldIntS_any _ 1 l'.length _ OG20.out.ints hl9' (by omega) (by omega)).mono ?_
  rintro e w21 ⟨rfl, hb⟩
  replace hb := eq_below hb
  have OW21 := Lib.hid (OW20.out.keep (below_grown hb) (by simp))
  have OG21 := Lib.hid (OG20.out.keep (below_grown hb) (by simp))
  have F21 := Lib.hid (F20.out.trans (hb.mono F20.out.size))
  have hz20 : w20.heap.size ≤ w21.heap.size := hb.size
  clear OW20 OG20 F20 hb
  go_wp2
  go_ret
  exact ⟨rfl, F21.out⟩

set_option maxHeartbeats 1000000 in
set_option maxRecDepth 100000 in
theorem walk (v0 : Value) (l0 : List Int) (v1 : Value) (l1 : List Int) (w : World) (w0 : Ints w v0 l0) (w1 : Ints w v1 l1) : Calls Try.prog 12 #[v0, v1] w fun e w' => e = .returned (.bool true) ∧ Below w.heap.size w w' := by
  by_cases hb0 : 1048576 < (l0.length : Int)
  · obtain ⟨a, cap, rfl, -, hm⟩ := w0.form
    obtain ⟨a1', cap1', rfl, -, -⟩ := w1.form
    clear w0 w1
    have hd : decide (1048576 < (l0.length : Int)) = true := by simp [hb0]
    go_enter Try.func12, Try.ntmps12
    go_wp2
    go_ret
    exact ⟨rfl, Below.refl _ _⟩
  by_cases hb1 : 1048576 < (l1.length : Int)
  · obtain ⟨a, cap, rfl, -, hm⟩ := w1.form
    obtain ⟨a0', cap0', rfl, -, -⟩ := w0.form
    clear w0 w1
    have hd : decide (1048576 < (l1.length : Int)) = true := by simp [hb1]
    have hd0 : decide (1048576 < (l0.length : Int)) = false := by simp; omega
    go_enter Try.func12, Try.ntmps12
    go_wp2
    go_ret
    exact ⟨rfl, Below.refl _ _⟩
  have hs0' : l0.length ≤ 1048576 := by omega
  have hs1' : l1.length ≤ 1048576 := by omega
  exact core v0 l0 v1 l1 w w0 w1 (pomL l0 l1) ((decide (PomOk l0 l1))) (Nat.le_trans (pomL_length _ _) (by omega)) (by omega) (by omega)
    (fun W u0 u1 h0 h1 _ _ => specPom u0 u1 l0 l1 W h0 h1 hs0' hs1')
    (fun W u0 u1 h0 h1 _ _ => implPom u0 u1 l0 l1 W h0 h1 hs0' hs1')

set_option maxRecDepth 100000 in
theorem lifted (os : Os) (started : os.Started) (H : Type) (enc : TypeId × Value → H) :
    ReturnsInHanded {} Try.checked os 12 .any (Rows.fnExactPermutationOfModelSpec.pre6 enc Try.prog Try.f12 Rows.fnExactPermutationOfModelRow.domain false) (Rows.fnExactPermutationOfModelSpec.post enc Try.prog Try.f12 false true false false) := by
  refine returnsInHanded_of_change (C := Try.checked) own started (by kernel_rfl) Try.func12
    (ChangeSpec.witness6 (enc := enc) (C := Try.checked) false ⟨#[], #[.slice none 0 0, .slice none 0 0], []⟩ 8 (by kernel_rfl) (by kernel_rfl) (by kernel_rfl) (by kernel_rfl)) ?_
  intro W base args ds gs before hval0 hW hcnd _
  have hval : ∀ (j : Nat) t v, Try.f12.params[j]? = some t → args[j]? = some v → Value.okWide Try.prog W .any base t v := hval0
  have hW' := hW
  obtain ⟨p, q, hA0, hV, rfl, hfz, hnd⟩ := hW
  have hA : DataW.TrodAll enc Try.prog W 0 (fun _ => true) true Try.f12.params.toList args.toList ds p := hA0
  rw [Try.params12] at hA hval
  obtain ⟨v0, vs0, d0, ds0, p0, q0, hargs, rfl, rfl, h0, r0⟩ := trodAll_cons hA
  obtain ⟨v1, vs1, d1, ds1, p1, q1, rfl, rfl, rfl, h1, r1⟩ := trodAll_cons r0
  obtain ⟨rfl, rfl, rfl⟩ := trodAll_nil r1
  obtain rfl : args = #[v0, v1] := by cases args; simp_all
  obtain ⟨rfl, rfl⟩ := trodVars_none hV
  have k0 := h0
  obtain ⟨l0, w0⟩ := open_ints_arg Try.underlying22 Try.underlying3 (by kernel_rfl) (hval 0 22 v0 rfl rfl) h0
  have k1 := h1
  obtain ⟨l1, w1⟩ := open_ints_arg Try.underlying22 Try.underlying3 (by kernel_rfl) (hval 1 22 v1 rfl rfl) h1
  clear hA0 hval0
  refine (walk v0 l0 v1 l1 W w0 w1).mono fun e W' ⟨he, bel⟩ => ?_
  subst he
  exact ⟨_, rfl, _, _, _, [], _, [], hW', (trodAll_cons_mk (shut_bool Try.underlying4 _) trodAll_mk0), (trodAll_cons_mk (Below.trod laidOut (by kernel_rfl) (of_decide_eq_true (by kernel_rfl)) k0 bel (lt_of_trod k0)) (trodAll_cons_mk (Below.trod laidOut (by kernel_rfl) (of_decide_eq_true (by kernel_rfl)) k1 bel (lt_of_trod k1)) trodAll_mk0)), rfl, bel.frame _, fun h => by cases h⟩

theorem proved : Rows.FnExactPermutationOfModelSaid :=
  OpenClaim.holds_of_wide 12 Try.f12 rfl rfl rfl rfl rfl rfl rfl ⟨rfl, rfl, rfl, rfl, rfl⟩ rfl rfl rfl rfl rfl (by kernel_rfl) Try.func12 (by kernel_rfl)
    (of_decide_eq_true (by kernel_rfl)) (by unfold Func.isWrapper; first | (rw [if_pos (by decide +kernel)]; kernel_rfl) | (rw [if_neg (by decide +kernel)]; exact ⟨rfl, rfl⟩))
    (fun os started H enc _ => lifted os started H enc)
#print axioms proved
end Go.Proofs.Ytbgkceekkinngac.fnExactPermutationOfModel
