/- IsModelOf. -/
import Derived.Test.YtbmpljclplddeabY12
import Derived.Test.YtbmpljclplddeabGe
namespace Go.Proofs.Ytbmpljclplddeab
set_option linter.unusedVariables false
set_option linter.unusedSimpArgs false
open Go.RowKit

set_option maxHeartbeats 2000000 in
set_option maxRecDepth 100000 in
theorem implModelOf (n : Int) (vg v u : Value) (lg l m : List Int) (w : World) (hg : Ints w vg lg) (h : Ints w v l) (g : Ints w u m) (hlg : lg.length ≤ 1048576) (hl : l.length ≤ 1048576) (hm : m.length ≤ 1048576) :
    Calls Try.prog 28 #[.agg #[.int .i64 n, vg], .agg #[v, u]] w (SaysB (IvP l m ∧ n = ivN l m ∧ lg = ivL l m) w) := by
  obtain ⟨ag, capg, rfl, -, -⟩ := hg.form
  obtain ⟨ad, cap, rfl, -, -⟩ := h.form
  obtain ⟨bd, cap', rfl, -, -⟩ := g.form
  have HG := Lib.hid hg
  have HI := Lib.hid h
  have HJ := Lib.hid g
  clear hg h g
  have F0 := Lib.hid (show Below w.heap.size w ((w.alloc (.cells #[.int .i64 n, .slice ag lg.length capg] 33)).alloc (.cells #[.slice ad l.length cap, .slice bd m.length cap'] 28)) from ((Below.refl _ w).alloc (Nat.le_refl _) _).alloc (by simp) _)
  have A0 := Lib.hid (show Box w.heap.size [.int .i64 n, .slice ag lg.length capg] ((w.alloc (.cells #[.int .i64 n, .slice ag lg.length capg] 33)).alloc (.cells #[.slice ad l.length cap, .slice bd m.length cap'] 28)) from (Box.new w _ _).keep (grown_alloc _ _ none) (by simp))
  obtain ⟨b, hbb⟩ : ∃ b, b = decide (IvP l m) := ⟨_, rfl⟩
  have HBB := Lib.hid hbb
  clear hbb
  go_enter Try.func28, Try.ntmps28
  go_wp2_with fail
  refine (implGIv _ _ l m _ (HI.out.on F0.out) (HJ.out.on F0.out) hl hm).mono ?_
  rintro e w1 ⟨vr, rfl, ho, hb⟩
  rw [← HBB.out]
  obtain ⟨ar, capr, rfl, -, -⟩ := ho.ints.form
  have F1 := Lib.hid (F0.out.trans (hb.mono F0.out.size))
  have HO := Lib.hid ho
  have x0 : w1.cell? ⟨w.heap.size, 0, none⟩ = some (.int .i64 n) := (A0.out.on hb).1 0 _ rfl
  have x1 : w1.cell? ⟨w.heap.size, 1, none⟩ = some (.slice ag lg.length capg) := (A0.out.on hb).1 1 _ rfl
  have hz1 : w.heap.size < w1.heap.size := by have := hb.size; simp at this; omega
  have HL7 := Lib.hid (ivL_length l m)
  obtain ⟨N, hN⟩ : ∃ N, N = ivN l m := ⟨_, rfl⟩
  obtain ⟨L, hL⟩ : ∃ L, L = ivL l m := ⟨_, rfl⟩
  have HNN := Lib.hid hN
  have HLL := Lib.hid hL
  rw [← hN, ← hL]
  rw [← hL] at HO HL7
  clear hb ho A0 F0 hN hL
  cases b with
  | false =>
    have HN := Lib.hid (show ¬ IvP l m from of_decide_eq_false HBB.out.symm)
    go_wp2
    go_ret
    exact SaysB.no (fun h => HN.out h.1) (F1.out.alloc F1.out.size _)
  | true =>
    have HV := Lib.hid (show IvP l m from of_decide_eq_true HBB.out.symm)
    go_wp2_with fail
    refine (implEqualGraphs n N _ _ lg L _ ((HG.out.on F1.out).alloc _) (HO.out.ints.alloc _) (by omega) (by have := HL7.out; omega)).mono ?_
    rintro e w2 ⟨r, rfl, hr, hb⟩
    have HR := Lib.hid hr
    have F2 := Lib.hid ((F1.out.alloc F1.out.size _).trans (hb.mono (by have := F1.out.size; simp; omega)))
    clear hr hb x0 x1
    go_wp2
    go_ret
    exact ⟨r, rfl, by rw [HR.out]; exact ⟨fun h => ⟨HV.out, h.1.trans HNN.out, h.2.trans HLL.out⟩, fun h => ⟨h.2.1.trans HNN.out.symm, h.2.2.trans HLL.out.symm⟩⟩, F2.out⟩

set_option maxHeartbeats 2000000 in
set_option maxRecDepth 100000 in
theorem specModelOf (n : Int) (vg v u : Value) (lg l m : List Int) (w : World) (hg : Ints w vg lg) (h : Ints w v l) (g : Ints w u m) (hlg : lg.length ≤ 1048576) (hl : l.length ≤ 1048576) (hm : m.length ≤ 1048576) :
    Calls Try.prog 26 #[.agg #[.int .i64 n, vg], .agg #[v, u]] w (SaysB (IvP l m ∧ n = ivN l m ∧ lg = ivL l m) w) := by
  obtain ⟨ag, capg, rfl, -, -⟩ := hg.form
  obtain ⟨ad, cap, rfl, -, -⟩ := h.form
  obtain ⟨bd, cap', rfl, -, -⟩ := g.form
  have HG := Lib.hid hg
  have HI := Lib.hid h
  have HJ := Lib.hid g
  clear hg h g
  have F0 := Lib.hid (show Below w.heap.size w ((w.alloc (.cells #[.int .i64 n, .slice ag lg.length capg] 33)).alloc (.cells #[.slice ad l.length cap, .slice bd m.length cap'] 28)) from ((Below.refl _ w).alloc (Nat.le_refl _) _).alloc (by simp) _)
  have A0 := Lib.hid (show Box w.heap.size [.int .i64 n, .slice ag lg.length capg] ((w.alloc (.cells #[.int .i64 n, .slice ag lg.length capg] 33)).alloc (.cells #[.slice ad l.length cap, .slice bd m.length cap'] 28)) from (Box.new w _ _).keep (grown_alloc _ _ none) (by simp))
  obtain ⟨b, hbb⟩ : ∃ b, b = decide (IvP l m) := ⟨_, rfl⟩
  have HBB := Lib.hid hbb
  clear hbb
  go_enter Try.func26, Try.ntmps26
  go_wp2_with fail
  refine (specGIv _ _ l m _ (HI.out.on F0.out) (HJ.out.on F0.out) hl hm).mono ?_
  rintro e w1 ⟨vr, rfl, ho, hb⟩
  rw [← HBB.out]
  obtain ⟨ar, capr, rfl, -, -⟩ := ho.ints.form
  have F1 := Lib.hid (F0.out.trans (hb.mono F0.out.size))
  have HO := Lib.hid ho
  have x0 : w1.cell? ⟨w.heap.size, 0, none⟩ = some (.int .i64 n) := (A0.out.on hb).1 0 _ rfl
  have x1 : w1.cell? ⟨w.heap.size, 1, none⟩ = some (.slice ag lg.length capg) := (A0.out.on hb).1 1 _ rfl
  have hz1 : w.heap.size < w1.heap.size := by have := hb.size; simp at this; omega
  have HL7 := Lib.hid (ivL_length l m)
  obtain ⟨N, hN⟩ : ∃ N, N = ivN l m := ⟨_, rfl⟩
  obtain ⟨L, hL⟩ : ∃ L, L = ivL l m := ⟨_, rfl⟩
  have HNN := Lib.hid hN
  have HLL := Lib.hid hL
  rw [← hN, ← hL]
  rw [← hL] at HO HL7
  clear hb ho A0 F0 hN hL
  cases b with
  | false =>
    have HN := Lib.hid (show ¬ IvP l m from of_decide_eq_false HBB.out.symm)
    go_wp2
    go_ret
    exact SaysB.no (fun h => HN.out h.1) (F1.out.alloc F1.out.size _)
  | true =>
    have HV := Lib.hid (show IvP l m from of_decide_eq_true HBB.out.symm)
    go_wp2_with fail
    refine (specEqualGraphs N n _ _ L lg _ (HO.out.ints.alloc _) ((HG.out.on F1.out).alloc _) (by have := HL7.out; omega) (by omega)).mono ?_
    rintro e w2 ⟨r, rfl, hr, hb⟩
    have HR := Lib.hid hr
    have F2 := Lib.hid ((F1.out.alloc F1.out.size _).trans (hb.mono (by have := F1.out.size; simp; omega)))
    clear hr hb x0 x1
    go_wp2
    go_ret
    exact ⟨r, rfl, by rw [HR.out]; exact ⟨fun h => ⟨HV.out, h.1.symm.trans HNN.out, h.2.symm.trans HLL.out⟩, fun h => ⟨(h.2.1.trans HNN.out.symm).symm, (h.2.2.trans HLL.out.symm).symm⟩⟩, F2.out⟩

end Go.Proofs.Ytbmpljclplddeab
