/- GraphOfArcs: the program's. -/
import Derived.Test.YtcpchdnhhjhpaaaY24
import Derived.Test.YtcpchdnhhjhpaaaM8
import Derived.Test.YtcpchdnhhjhpaaaQ
import Derived.Laws.StructEq
namespace Go.Proofs.Ytcpchdnhhjhpaaa
set_option linter.unusedVariables false
set_option linter.unusedSimpArgs false
open Go.RowKit

def arcsN (n : Int) (l m : List Int) : Int := if ArcsP n l m then (l.length : Int) else 0

def arcsL (n : Int) (l m : List Int) : List Int := if ArcsP n l m then adjL l.length (symR (meetB n l m)) else []

theorem arcsL_length (n : Int) (l m : List Int) : (arcsL n l m).length ≤ 7 := by
  unfold arcsL
  split
  · rename_i h
    rw [adjL_length]
    exact h.2.1.2
  · simp

theorem eq_row (p q : Nat → Bool) (w : World) : (Op.equalIn 10000 97 (.agg (rowB p).toArray) (.agg (rowB q).toArray)).run Try.prog w = .ok ((List.range 30).all fun x => p x == q x) w := by
  have ht : Try.prog.underlying 97 = some (.array 30 4) := by kernel_rfl
  have he : Try.prog.underlying 4 = some .bool := by kernel_rfl
  have hsz : ∀ w, (sizeOf 4).run Try.prog w = .ok 1 w := fun w => by rw [Try.sizeOf4]
  rw [List.range_eq_range', Op.equalIn]
  simp only [Sem.run_bind, run_underlying ht, Result.andThen_ok, hsz, Std.Legacy.Range.forIn_eq_forIn_range', Std.Legacy.Range.size, Nat.sub_zero, Nat.add_sub_cancel, Nat.div_one]
  have hl : ∀ i ∈ List.range' 0 30 1, i < 30 := fun i hi => by simpa using (List.mem_range'_1.1 hi).2
  generalize List.range' 0 30 1 = l at hl ⊢
  induction l with
  | nil => simp
  | cons i l ih =>
    have hi : i < 30 := hl i (by simp)
    have px : (part 4 (rowB p).toArray (i * 1)).run Try.prog w = .ok (.bool (p i)) w := by
      simp [part, isAgg, run_underlying he, rowB_get p hi]
    have py : (part 4 (rowB q).toArray (i * 1)).run Try.prog w = .ok (.bool (q i)) w := by
      simp [part, isAgg, run_underlying he, rowB_get q hi]
    have pe : (Op.equalIn 9999 4 (.bool (p i)) (.bool (q i))).run Try.prog w = .ok (p i == q i) w := run_equalIn_bool' w 9998 _ _ _ he
    simp only [List.forIn_cons, Sem.run_bind, px, py, pe, Result.andThen_ok, List.all_cons]
    cases hb : (p i == q i)
    · simp
    · simp only [Bool.not_true, Bool.false_eq_true, if_false, Sem.run_pure, Result.andThen_ok, Bool.true_and]
      exact ih fun j hj => hl j (by simp [hj])

theorem neq_none (p : Nat → Bool) (w : World) : (binOp .neq 97 (.agg (rowB p).toArray) (.agg #[.bool false, .bool false, .bool false, .bool false, .bool false, .bool false, .bool false, .bool false, .bool false, .bool false, .bool false, .bool false, .bool false, .bool false, .bool false, .bool false, .bool false, .bool false, .bool false, .bool false, .bool false, .bool false, .bool false, .bool false, .bool false, .bool false, .bool false, .bool false, .bool false, .bool false])).run Try.prog w = .ok (.bool ((List.range 30).any p)) w := by
  have h0 : (.agg #[.bool false, .bool false, .bool false, .bool false, .bool false, .bool false, .bool false, .bool false, .bool false, .bool false, .bool false, .bool false, .bool false, .bool false, .bool false, .bool false, .bool false, .bool false, .bool false, .bool false, .bool false, .bool false, .bool false, .bool false, .bool false, .bool false, .bool false, .bool false, .bool false, .bool false] : Value) = .agg (rowB fun _ => false).toArray := rfl
  rw [h0, run_neq_struct, eq_row]
  have : (!(List.range 30).all fun x => p x == false) = (List.range 30).any p := by
    rw [List.not_all_eq_any_not]
    congr 1
    funext x
    cases p x <;> rfl
  rw [Result.andThen_ok, this]

set_option maxRecDepth 100000 in
theorem enters_arcs : Enters 85 := fun args W => by rfl

set_option maxHeartbeats 1000000 in
set_option maxRecDepth 100000 in
theorem rule_arcs (q : Nat) (n : Int) (v u : Value) (l m : List Int) (W0 : World) (hk : Box q [.int .i64 n, v, u] W0) (hI : Ints W0 v l) (hJ : Ints W0 u m) (hv : ArcsP n l m) :
    Rule 85 #[.pointer (some ⟨q, 0, none⟩)] l.length (meetB n l m) W0 := by
  intro W i j hij hj hbel
  have HK := Lib.hid (hk.on hbel)
  have HI := Lib.hid (hI.on hbel)
  have HJ := Lib.hid (hJ.on hbel)
  obtain ⟨ad, cap, rfl, -, -⟩ := hI.form
  obtain ⟨bd, cap', rfl, -, -⟩ := hJ.form
  obtain ⟨P, hP⟩ : ∃ P, P = onB n (nth l i) (nth m i).toNat := ⟨_, rfl⟩
  obtain ⟨R, hR⟩ : ∃ P, P = onB n (nth l j) (nth m j).toNat := ⟨_, rfl⟩
  obtain ⟨A, hA⟩ : ∃ A, A = (rowB P).toArray := ⟨_, rfl⟩
  obtain ⟨C, hC⟩ : ∃ A, A = (rowB R).toArray := ⟨_, rfl⟩
  obtain ⟨D, hD⟩ : ∃ A, A = (rowB fun x => P x && R x).toArray := ⟨_, rfl⟩
  obtain ⟨b, hb⟩ : ∃ b, b = meetB n l m i j := ⟨_, rfl⟩
  have HBB := Lib.hid hb
  have k0 : ∀ X : Since W, X.val.cell? ⟨q, 0, none⟩ = some (.int .i64 n) := fun X => (HK.out.on X.prop).1 0 _ rfl
  have k1 : ∀ X : Since W, X.val.cell? ⟨q, 1, none⟩ = some (.slice ad l.length cap) := fun X => (HK.out.on X.prop).1 1 _ rfl
  have k2 : ∀ X : Since W, X.val.cell? ⟨q, 2, none⟩ = some (.slice bd m.length cap') := fun X => (HK.out.on X.prop).1 2 _ rfl
  have HC1 : Hid (∀ X : Since W, Calls Try.prog 86 #[.agg #[.int .i64 n, .slice ad l.length cap, .slice bd m.length cap'], .int .i64 i] X.val fun e w' => e = .returned (.agg A) ∧ Below X.val.heap.size X.val w') := fun X => by
    rw [hA, hP]; exact pointsOf_is n _ _ l m i X.val (HI.out.on X.prop) (HJ.out.on X.prop) hv (by omega)
  have HC2 : Hid (∀ X : Since W, Calls Try.prog 86 #[.agg #[.int .i64 n, .slice ad l.length cap, .slice bd m.length cap'], .int .i64 j] X.val fun e w' => e = .returned (.agg C) ∧ Below X.val.heap.size X.val w') := fun X => by
    rw [hC, hR]; exact pointsOf_is n _ _ l m j X.val (HI.out.on X.prop) (HJ.out.on X.prop) hv hj
  have HC3 : Hid (∀ X : Since W, Calls Try.prog 87 #[.agg A, .agg C] X.val fun e w' => e = .returned (.agg D) ∧ Below X.val.heap.size X.val w') := fun X => by
    rw [hA, hC, hD]; exact and_is P R X.val
  have hne : ∀ W : World, (binOp .neq 97 (.agg D) (.agg #[.bool false, .bool false, .bool false, .bool false, .bool false, .bool false, .bool false, .bool false, .bool false, .bool false, .bool false, .bool false, .bool false, .bool false, .bool false, .bool false, .bool false, .bool false, .bool false, .bool false, .bool false, .bool false, .bool false, .bool false, .bool false, .bool false, .bool false, .bool false, .bool false, .bool false])).run Try.prog W = .ok (.bool b) W := fun W => by
    rw [hD, neq_none, hb, hP, hR]; rfl
  have HPP := Lib.hid hP
  have HRR := Lib.hid hR
  clear hI hJ hbel hk hij hA hC hD hP hR
  rw [← hb]
  clear hb
  show Calls Try.prog 85 #[.int .i64 i, .int .i64 j, .pointer (some ⟨q, 0, none⟩)] W _
  go_enter Try.func85, Try.ntmps85
  go_wp2
  refine wp_region_since (by kernel_rfl) (by kernel_rfl) ?_
  repeat (go_big_quiet_step (first | with_reducible exact since_call (HC1.out _) | with_reducible exact since_call (HC2.out _) | with_reducible exact since_call (HC3.out _)))
  refine wpQuiet_nil ?_
  intro Y
  have HY := Lib.hid Y.prop
  clear k0 k1 k2
  go_wp2
  go_ret
  exact ⟨rfl, HY.out⟩

set_option maxHeartbeats 2000000 in
set_option maxRecDepth 100000 in
theorem implGArcs (n : Int) (v u : Value) (l m : List Int) (w : World) (h : Ints w v l) (g : Ints w u m) (hl : l.length ≤ 1048576) (hm : m.length ≤ 1048576) :
    Calls Try.prog 32 #[.agg #[.int .i64 n, v, u]] w (GetsGB w.heap.size w (arcsN n l m) (arcsL n l m) (decide (ArcsP n l m))) := by
  obtain ⟨ad, cap, rfl, -, -⟩ := h.form
  obtain ⟨bd, cap', rfl, -, -⟩ := g.form
  have HI := Lib.hid h
  have HJ := Lib.hid g
  clear h g
  have hmf : ∀ (fn : Fn) (first cap : Array Value) (w : World), (Instr.makeFunc fn first cap).run Try.prog w = .ok (.func fn first cap) w := fun _ _ _ _ => rfl
  obtain ⟨w0, hw0⟩ : ∃ w0, w0 = (w.alloc (.cells #[.int .i64 n, .slice ad l.length cap, .slice bd m.length cap'] 41)) := ⟨_, rfl⟩
  have F0 := Lib.hid (show Below w.heap.size w w0 by rw [hw0]; exact (Below.refl _ w).alloc (Nat.le_refl _) _)
  have A0 := Lib.hid (show Box w.heap.size [.int .i64 n, .slice ad l.length cap, .slice bd m.length cap'] w0 by rw [hw0]; exact Box.new w _ _)
  have hz0 : w0.heap.size = w.heap.size + 1 := by rw [hw0]; simp
  obtain ⟨w1, hw1⟩ : ∃ w1, w1 = w0.alloc (.cells #[.int .i64 0, .slice none 0 0] 28) := ⟨_, rfl⟩
  have BL1 := Lib.hid (show Blank w0.heap.size w1 by rw [hw1]; exact Blank.new w0 _)
  have BB1 := Lib.hid (show Below w0.heap.size w0 w1 by rw [hw1]; exact (Below.refl _ w0).alloc (Nat.le_refl _) _)
  have A1 := Lib.hid (A0.out.on BB1.out)
  obtain ⟨b, hbb⟩ : ∃ b, b = decide (ArcsP n l m) := ⟨_, rfl⟩
  have HBB := Lib.hid hbb
  rw [← hbb]
  clear hbb
  have x0 : w1.cell? ⟨w.heap.size, 0, none⟩ = some (.int .i64 n) := A1.out.1 0 _ rfl
  have x1 : w1.cell? ⟨w.heap.size, 1, none⟩ = some (.slice ad l.length cap) := A1.out.1 1 _ rfl
  have x2 : w1.cell? ⟨w.heap.size, 2, none⟩ = some (.slice bd m.length cap') := A1.out.1 2 _ rfl
  go_enter Try.func32, Try.ntmps32
  go_wp2_with fail
  rw [← hw0, ← hw1]
  clear hw1
  refine (implIsArcs n _ _ l m _ (HI.out.on (F0.out.trans (BB1.out.mono F0.out.size))) (HJ.out.on (F0.out.trans (BB1.out.mono F0.out.size))) hl hm).mono ?_
  rintro e w2 ⟨r, rfl, hr, hb⟩
  have HR := Lib.hid hr
  have BL2 := Lib.hid (BL1.out.keep (below_grown hb) (by simp))
  have BB2 := Lib.hid (BB1.out.trans (hb.mono BB1.out.size))
  have A2 := Lib.hid (A1.out.on hb)
  have BW2 := Lib.hid (F0.out.trans (BB2.out.mono F0.out.size))
  clear hb hr BL1 BB1 hw0 x0 x1 x2
  cases r with
  | false =>
    have hiv : ¬ ArcsP n l m := fun h => absurd (HR.out.2 h) (by decide)
    obtain rfl : b = false := by rw [HBB.out]; exact decide_eq_false hiv
    have HN := Lib.hid (show arcsN n l m = 0 ∧ arcsL n l m = [] by unfold arcsN arcsL; simp [hiv])
    obtain ⟨b0, b1, b2, b3, b4⟩ := BL2.out
    rw [hz0] at b0 b1 b2 b3 b4
    clear hiv hmf
    go_wp2
    refine bodyPost_ret (v := .tuple #[.agg #[.int .i64 0, .slice none 0 0], .bool false]) (by simp [results, Try.results32, go_sem, b0, b1, b2, b3, b4] <;> rfl) rfl ?_
    rw [HN.out.1, HN.out.2]
    refine ⟨_, rfl, ⟨inI64_nil, World.ownsRow_nil _ _ _ _⟩, ?_⟩
    exact F0.out.trans (((BB2.out.setCell (p := ⟨w.heap.size + 1, 0, none⟩) (by show w0.heap.size ≤ w.heap.size + 1; omega) _).setCell (p := ⟨w.heap.size + 1, 1, none⟩) (by show w0.heap.size ≤ w.heap.size + 1; omega) _).mono F0.out.size)
  | true =>
    have HV := Lib.hid (HR.out.1 (by first | rfl | trivial))
    obtain rfl : b = true := by rw [HBB.out]; exact decide_eq_true HV.out
    have HN := Lib.hid (show arcsN n l m = (l.length : Int) ∧ arcsL n l m = adjL l.length (symR (meetB n l m)) by unfold arcsN arcsL; rw [if_pos HV.out, if_pos HV.out]; exact ⟨rfl, rfl⟩)
    obtain ⟨hl1, hl7⟩ := HV.out.2.1
    have x1 : w2.cell? ⟨w.heap.size, 1, none⟩ = some (.slice ad l.length cap) := A2.out.1 1 _ rfl
    go_wp2_with fail
    refine (graphWith_any 85 #[.pointer (some ⟨w.heap.size, 0, none⟩)] l.length (meetB n l m) _ hl1 hl7 enters_arcs (rule_arcs w.heap.size n _ _ l m _ A2.out (HI.out.on BW2.out) (HJ.out.on BW2.out) HV.out)).mono ?_
    rintro e w4 ⟨v3, rfl, ho, hb⟩
    have BL4 := BL2.out.keep (below_grown hb) (by simp)
    have BB4 := Lib.hid (BB2.out.trans (hb.mono BB2.out.size))
    have hz3 := BL2.out.2.2.2.2
    obtain ⟨a3, cap3, rfl, -, -⟩ := ho.ints.form
    have HO := Lib.hid ho
    have hs3 := Lib.hid BB2.out.size
    clear ho hb hmf x1
    obtain ⟨b0, b1, b2, b3, b4⟩ := BL4
    rw [hz0] at b0 b1 b2 b3 b4
    go_wp2
    refine bodyPost_ret (v := .tuple #[.agg #[.int .i64 l.length, .slice a3 _ cap3], .bool true]) (by simp [results, Try.results32, go_sem, b0, b1, b2, b3] <;> rfl) rfl ?_
    rw [HN.out.1, HN.out.2]
    refine ⟨_, rfl, ?_, ?_⟩
    · exact ((HO.out.setBelow (a := ⟨w.heap.size + 1, 0, none⟩) (by show w.heap.size + 1 < w2.heap.size; omega) _).setBelow (a := ⟨w.heap.size + 1, 1, none⟩) (by show w.heap.size + 1 < w2.heap.size; omega) _).mono (by have := hs3.out; omega)
    · exact F0.out.trans (((BB4.out.setCell (by simp [hz0]) _).setCell (by simp [hz0]) _).mono F0.out.size)

end Go.Proofs.Ytcpchdnhhjhpaaa
