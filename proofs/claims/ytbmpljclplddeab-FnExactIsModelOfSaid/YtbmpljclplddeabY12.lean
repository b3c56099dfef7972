/- GraphOfIntervals. -/
import Derived.Test.YtbmpljclplddeabY7
import Derived.Test.YtbmpljclplddeabM8
namespace Go.Proofs.Ytbmpljclplddeab
set_option linter.unusedVariables false
set_option linter.unusedSimpArgs false
open Go.RowKit

def ivR (l m : List Int) (i j : Nat) : Bool := decide (nth l i ≤ nth m j ∧ nth l j ≤ nth m i)

def ivN (l m : List Int) : Int := if IvP l m then (l.length : Int) else 0

def ivL (l m : List Int) : List Int := if IvP l m then adjL l.length (symR (ivR l m)) else []

theorem ivL_length (l m : List Int) : (ivL l m).length ≤ 7 := by
  unfold ivL
  split
  · rename_i h
    rw [adjL_length]
    exact h.1.2
  · simp

theorem meets_is (x y x' y' : Int) (w : World) : Calls Try.prog 65 #[.agg #[.int .i64 x, .int .i64 y], .agg #[.int .i64 x', .int .i64 y']] w (SaysB ((x ≤ x' ∧ x' ≤ y) ∨ x' ≤ x ∧ x ≤ y') w) := by
  have F0 := Lib.hid (show Below w.heap.size w ((w.alloc (.cells #[.int .i64 x, .int .i64 y] 81)).alloc (.cells #[.int .i64 x', .int .i64 y'] 81)) from ((Below.refl _ w).alloc (Nat.le_refl _) _).alloc (by simp) _)
  have A0 := Lib.hid (show Box w.heap.size [.int .i64 x, .int .i64 y] ((w.alloc (.cells #[.int .i64 x, .int .i64 y] 81)).alloc (.cells #[.int .i64 x', .int .i64 y'] 81)) from (Box.new w _ _).keep (grown_alloc _ _ none) (by simp))
  have C0 := Lib.hid (show Box (w.heap.size + 1) [.int .i64 x', .int .i64 y'] ((w.alloc (.cells #[.int .i64 x, .int .i64 y] 81)).alloc (.cells #[.int .i64 x', .int .i64 y'] 81)) by have h := Box.new (w.alloc (.cells #[.int .i64 x, .int .i64 y] 81)) 81 [.int .i64 x', .int .i64 y']; simpa using h)
  go_enter Try.func65, Try.ntmps65
  go_wp2_with fail
  refine (has_is x y x' _).mono ?_
  rintro e w1 ⟨r, rfl, hr, hb⟩
  have HR := Lib.hid hr
  have F1 := Lib.hid (F0.out.trans (hb.mono F0.out.size))
  have x0 : w1.cell? ⟨w.heap.size, 0, none⟩ = some (.int .i64 x) := (A0.out.on hb).1 0 _ rfl
  have x1 : w1.cell? ⟨w.heap.size, 1, none⟩ = some (.int .i64 y) := (A0.out.on hb).1 1 _ rfl
  have y0 : w1.cell? ⟨w.heap.size + 1, 0, none⟩ = some (.int .i64 x') := (C0.out.on hb).1 0 _ rfl
  have y1 : w1.cell? ⟨w.heap.size + 1, 1, none⟩ = some (.int .i64 y') := (C0.out.on hb).1 1 _ rfl
  clear hr hb A0 C0 F0
  cases r with
  | true =>
    go_wp2
    go_ret
    exact SaysB.yes (.inl (HR.out.1 (by first | rfl | trivial))) F1.out
  | false =>
    go_wp2_with fail
    refine (has_is x' y' x _).mono ?_
    rintro e w2 ⟨r, rfl, hr, hb⟩
    have HS := Lib.hid hr
    have F2 := Lib.hid (F1.out.trans (hb.mono F1.out.size))
    clear hr hb x0 x1 y0 y1
    go_wp2
    go_ret
    exact ⟨r, rfl, by rw [HS.out]; exact ⟨fun h => .inr h, fun h => h.elim (fun h => absurd (HR.out.2 h) (by decide)) id⟩, F2.out⟩

set_option maxRecDepth 100000 in
theorem enters_iv : Enters 64 := fun args W => by rfl

set_option maxHeartbeats 1000000 in
set_option maxRecDepth 100000 in
theorem rule_iv (q g : Nat) (l m : List Int) (W0 : World) (hk : Boxed W0 q 76 (.slice (some ⟨g, 0, none⟩) l.length l.length)) (hI : PairRow g l m W0) (hv : IvP l m) :
    Rule 64 #[.pointer (some ⟨q, 0, none⟩)] l.length (ivR l m) W0 := by
  intro W i j hij hj hbel
  have HK := Lib.hid (hk.kept (below_grown hbel) (by simp))
  have HP := Lib.hid (hI.on hbel)
  have hi : i < l.length := by omega
  have h7 : l.length ≤ 7 := hv.1.2
  obtain ⟨x, hx⟩ : ∃ z, z = nth l i := ⟨_, rfl⟩
  obtain ⟨y, hy⟩ : ∃ z, z = nth m i := ⟨_, rfl⟩
  obtain ⟨x', hx'⟩ : ∃ z, z = nth l j := ⟨_, rfl⟩
  obtain ⟨y', hy'⟩ : ∃ z, z = nth m j := ⟨_, rfl⟩
  have v1 := hv.2.2 i hi
  have v2 := hv.2.2 j hj
  rw [← hx, ← hy] at v1
  rw [← hx', ← hy'] at v2
  have hR : ivR l m i j = decide ((x ≤ x' ∧ x' ≤ y) ∨ x' ≤ x ∧ x ≤ y') := by
    unfold ivR
    rw [← hx, ← hy, ← hx', ← hy']
    exact decide_eq_decide.2 (by omega)
  obtain ⟨b, hb⟩ : ∃ b, b = ivR l m i j := ⟨_, rfl⟩
  have HB := Lib.hid hb
  rw [hR] at hb
  have k0 : ∀ X : Since W, X.val.cell? ⟨q, 0, none⟩ = some (.slice (some ⟨g, 0, none⟩) l.length l.length) := fun X => (HK.out.kept (below_grown X.prop) (by simp)).cell
  have e0 : ∀ X : Since W, X.val.cell? ⟨g, i * 2, none⟩ = some (.int .i64 x) := fun X => by rw [hx]; exact ((HP.out.on X.prop).1 i hi).1
  have e1 : ∀ X : Since W, X.val.cell? ⟨g, i * 2 + 1, none⟩ = some (.int .i64 y) := fun X => by rw [hy]; exact ((HP.out.on X.prop).1 i hi).2
  have e2 : ∀ X : Since W, X.val.cell? ⟨g, j * 2, none⟩ = some (.int .i64 x') := fun X => by rw [hx']; exact ((HP.out.on X.prop).1 j hj).1
  have e3 : ∀ X : Since W, X.val.cell? ⟨g, j * 2 + 1, none⟩ = some (.int .i64 y') := fun X => by rw [hy']; exact ((HP.out.on X.prop).1 j hj).2
  have HC1 : Hid (∀ X : Since W, Calls Try.prog 65 #[.agg #[.int .i64 x, .int .i64 y], .agg #[.int .i64 x', .int .i64 y']] X.val fun e w' => e = .returned (.bool b) ∧ Below X.val.heap.size X.val w') := fun X => by
    rw [hb]; exact (meets_is x y x' y' _).mono fun _ _ h => h.dec
  rw [← HB.out]
  clear hI hbel hk hx hy hx' hy' v1 v2 hR hb hv hij
  show Calls Try.prog 64 #[.int .i64 i, .int .i64 j, .pointer (some ⟨q, 0, none⟩)] W _
  go_enter Try.func64, Try.ntmps64
  go_wp2
  refine wp_region_since (by kernel_rfl) (by kernel_rfl) ?_
  repeat (go_big_quiet_step (with_reducible exact since_call (HC1.out _)))
  refine wpQuiet_nil ?_
  intro Y
  have HY := Lib.hid Y.prop
  clear k0 e0 e1 e2 e3
  go_wp2
  go_ret
  exact ⟨rfl, HY.out⟩

set_option maxHeartbeats 2000000 in
set_option maxRecDepth 100000 in
theorem implGIv (v u : Value) (l m : List Int) (w : World) (h : Ints w v l) (g : Ints w u m) (hl : l.length ≤ 1048576) (hm : m.length ≤ 1048576) :
    Calls Try.prog 20 #[.agg #[v, u]] w (GetsGB w.heap.size w (ivN l m) (ivL l m) (decide (IvP l m))) := by
  obtain ⟨ad, cap, rfl, -, -⟩ := h.form
  obtain ⟨bd, cap', rfl, -, -⟩ := g.form
  have HI := Lib.hid h
  have HJ := Lib.hid g
  clear h g
  have hmf : ∀ (fn : Fn) (first cap : Array Value) (w : World), (Instr.makeFunc fn first cap).run Try.prog w = .ok (.func fn first cap) w := fun _ _ _ _ => rfl
  obtain ⟨w0, hw0⟩ : ∃ w0, w0 = (w.alloc (.cells #[.slice ad l.length cap, .slice bd m.length cap'] 28)) := ⟨_, rfl⟩
  have F0 := Lib.hid (show Below w.heap.size w w0 by rw [hw0]; exact (Below.refl _ w).alloc (Nat.le_refl _) _)
  have A0 := Lib.hid (show Box w.heap.size [.slice ad l.length cap, .slice bd m.length cap'] w0 by rw [hw0]; exact Box.new w _ _)
  have hz0 : w0.heap.size = w.heap.size + 1 := by rw [hw0]; simp
  obtain ⟨w1, hw1⟩ : ∃ w1, w1 = w0.alloc (.cells #[.int .i64 0, .slice none 0 0] 33) := ⟨_, rfl⟩
  have BL1 := Lib.hid (show Blank w0.heap.size w1 by rw [hw1]; exact Blank.new w0 _)
  have BB1 := Lib.hid (show Below w0.heap.size w0 w1 by rw [hw1]; exact (Below.refl _ w0).alloc (Nat.le_refl _) _)
  have A1 := Lib.hid (A0.out.on BB1.out)
  obtain ⟨b, hbb⟩ : ∃ b, b = decide (IvP l m) := ⟨_, rfl⟩
  have HBB := Lib.hid hbb
  rw [← hbb]
  clear hbb
  go_enter Try.func20, Try.ntmps20
  go_wp2_with fail
  rw [← hw0, ← hw1]
  clear hw1
  refine (intervalsOf_is _ _ l m _ (HI.out.on (F0.out.trans (BB1.out.mono F0.out.size))) (HJ.out.on (F0.out.trans (BB1.out.mono F0.out.size))) hl hm).mono ?_
  rintro e w2 ⟨v1, rfl, hy, hn, hb⟩
  rw [← HBB.out]
  have BL2 := Lib.hid (BL1.out.keep (below_grown hb) (by simp))
  have BB2 := Lib.hid (BB1.out.trans (hb.mono BB1.out.size))
  have BW2 := Lib.hid (F0.out.trans (BB2.out.mono F0.out.size))
  clear hb BL1 BB1 hw0
  by_cases hiv : IvP l m
  · obtain ⟨g, rfl, hg, hrow⟩ := hy hiv
    have HV := Lib.hid hiv
    obtain rfl : b = true := by rw [HBB.out]; exact decide_eq_true hiv
    have HN := Lib.hid (show ivN l m = (l.length : Int) ∧ ivL l m = adjL l.length (symR (ivR l m)) by unfold ivN ivL; simp [hiv])
    obtain ⟨hl1, hl7⟩ := hiv.1
    obtain ⟨w3, hw3⟩ : ∃ w3, w3 = w2.alloc (.cells #[.slice (some ⟨g, 0, none⟩) l.length l.length] 76) := ⟨_, rfl⟩
    have hb3 : Below w2.heap.size w2 w3 := by rw [hw3]; exact (Below.refl _ _).alloc (Nat.le_refl _) _
    have BK3 := Lib.hid (show Boxed w3 w2.heap.size 76 (.slice (some ⟨g, 0, none⟩) l.length l.length) by rw [hw3]; exact Boxed.new w2 _ _)
    have P3 := Lib.hid (hrow.on hb3)
    have BL3 := Lib.hid (BL2.out.keep (below_grown hb3) (by simp))
    have BB3 := Lib.hid (BB2.out.trans (hb3.mono BB2.out.size))
    clear hy hn hiv hrow hb3
    go_wp2_with fail
    rw [← hw3]
    clear hw3
    refine (graphWith_any 64 #[.pointer (some ⟨w2.heap.size, 0, none⟩)] l.length (ivR l m) _ hl1 hl7 enters_iv (rule_iv w2.heap.size g l m _ BK3.out P3.out HV.out)).mono ?_
    rintro e w4 ⟨v3, rfl, ho, hb⟩
    have BL4 := BL3.out.keep (below_grown hb) (by simp)
    have BB4 := Lib.hid (BB3.out.trans (hb.mono BB3.out.size))
    have hz3 := BL3.out.2.2.2.2
    obtain ⟨a3, cap3, rfl, -, -⟩ := ho.ints.form
    have HO := Lib.hid ho
    have hs3 := Lib.hid BB3.out.size
    clear ho hb hmf
    obtain ⟨b0, b1, b2, b3, b4⟩ := BL4
    rw [hz0] at b0 b1 b2 b3 b4
    go_wp2
    refine bodyPost_ret (v := .tuple #[.agg #[.int .i64 l.length, .slice a3 _ cap3], .bool true]) (by simp [results, Try.results20, go_sem, b0, b1, b2, b3] <;> rfl) rfl ?_
    rw [HN.out.1, HN.out.2]
    refine ⟨_, rfl, ?_, ?_⟩
    · exact ((HO.out.setBelow (a := ⟨w.heap.size + 1, 0, none⟩) (by show w.heap.size + 1 < w3.heap.size; omega) _).setBelow (a := ⟨w.heap.size + 1, 1, none⟩) (by show w.heap.size + 1 < w3.heap.size; omega) _).mono (by have := hs3.out; omega)
    · exact F0.out.trans (((BB4.out.setCell (by simp [hz0]) _).setCell (by simp [hz0]) _).mono F0.out.size)
  · obtain rfl := hn hiv
    obtain rfl : b = false := by rw [HBB.out]; exact decide_eq_false hiv
    have HN := Lib.hid (show ivN l m = 0 ∧ ivL l m = [] by unfold ivN ivL; simp [hiv])
    obtain ⟨b0, b1, b2, b3, b4⟩ := BL2.out
    rw [hz0] at b0 b1 b2 b3 b4
    clear hy hn hiv hmf
    go_wp2
    refine bodyPost_ret (v := .tuple #[.agg #[.int .i64 0, .slice none 0 0], .bool false]) (by simp [results, Try.results20, go_sem, b0, b1, b2, b3, b4] <;> rfl) rfl ?_
    rw [HN.out.1, HN.out.2]
    refine ⟨_, rfl, ⟨inI64_nil, World.ownsRow_nil _ _ _ _⟩, ?_⟩
    exact F0.out.trans ((((BB2.out.setCell (p := ⟨w.heap.size + 1, 0, none⟩) (by show w0.heap.size ≤ w.heap.size + 1; omega) _).setCell (p := ⟨w.heap.size + 1, 1, none⟩) (by show w0.heap.size ≤ w.heap.size + 1; omega) _).alloc (by simpa using BB2.out.size) _).mono F0.out.size)

set_option maxHeartbeats 4000000 in
set_option maxRecDepth 100000 in
theorem specGIv (v u : Value) (l m : List Int) (w : World) (h : Ints w v l) (g : Ints w u m) (hl : l.length ≤ 1048576) (hm : m.length ≤ 1048576) :
    Calls Try.prog 19 #[.agg #[v, u]] w (GetsGB w.heap.size w (ivN l m) (ivL l m) (decide (IvP l m))) := by
  obtain ⟨ad, cap, rfl, -, -⟩ := h.form
  obtain ⟨bd, cap', rfl, -, -⟩ := g.form
  have HI := Lib.hid h
  have HJ := Lib.hid g
  clear h g
  obtain ⟨w0, hw0⟩ : ∃ w0, w0 = (w.alloc (.cells #[.slice ad l.length cap, .slice bd m.length cap'] 28)) := ⟨_, rfl⟩
  have F0 := Lib.hid (show Below w.heap.size w w0 by rw [hw0]; exact (Below.refl _ w).alloc (Nat.le_refl _) _)
  have A0 := Lib.hid (show Box w.heap.size [.slice ad l.length cap, .slice bd m.length cap'] w0 by rw [hw0]; exact Box.new w _ _)
  have hz0 : w0.heap.size = w.heap.size + 1 := by rw [hw0]; simp
  obtain ⟨w1, hw1⟩ : ∃ w1, w1 = w0.alloc (.cells #[.int .i64 0, .slice none 0 0] 33) := ⟨_, rfl⟩
  have BL1 := Lib.hid (show Blank w0.heap.size w1 by rw [hw1]; exact Blank.new w0 _)
  have BB1 := Lib.hid (show Below w0.heap.size w0 w1 by rw [hw1]; exact (Below.refl _ w0).alloc (Nat.le_refl _) _)
  have A1 := Lib.hid (A0.out.on BB1.out)
  obtain ⟨b, hbb⟩ : ∃ b, b = decide (IvP l m) := ⟨_, rfl⟩
  have HBB := Lib.hid hbb
  rw [← hbb]
  clear hbb
  go_enter Try.func19, Try.ntmps19
  go_wp2_with fail
  rw [← hw0, ← hw1]
  clear hw1
  refine (specIsModel _ _ l m _ (HI.out.on (F0.out.trans (BB1.out.mono F0.out.size))) (HJ.out.on (F0.out.trans (BB1.out.mono F0.out.size))) hl hm).mono ?_
  rintro e w2 ⟨r, rfl, hr, hb⟩
  have HR := Lib.hid hr
  have BL2 := Lib.hid (BL1.out.keep (below_grown hb) (by simp))
  have BB2 := Lib.hid (BB1.out.trans (hb.mono BB1.out.size))
  clear hb hr BL1 BB1 hw0
  cases r with
  | false =>
    have hiv : ¬ IvP l m := fun h => absurd (HR.out.2 h) (by decide)
    obtain rfl : b = false := by rw [HBB.out]; exact decide_eq_false hiv
    have HN := Lib.hid (show ivN l m = 0 ∧ ivL l m = [] by unfold ivN ivL; simp [hiv])
    obtain ⟨b0, b1, b2, b3, b4⟩ := BL2.out
    rw [hz0] at b0 b1 b2 b3 b4
    clear hiv
    go_wp2
    refine bodyPost_ret (v := .tuple #[.agg #[.int .i64 0, .slice none 0 0], .bool false]) (by simp [results, Try.results19, go_sem, b0, b1, b2, b3, b4] <;> rfl) rfl ?_
    rw [HN.out.1, HN.out.2]
    refine ⟨_, rfl, ⟨inI64_nil, World.ownsRow_nil _ _ _ _⟩, ?_⟩
    exact F0.out.trans (((BB2.out.setCell (p := ⟨w.heap.size + 1, 0, none⟩) (by show w0.heap.size ≤ w.heap.size + 1; omega) _).setCell (p := ⟨w.heap.size + 1, 1, none⟩) (by show w0.heap.size ≤ w.heap.size + 1; omega) _).mono F0.out.size)
  | true =>
    have HV := Lib.hid (HR.out.1 (by first | rfl | trivial))
    obtain rfl : b = true := by rw [HBB.out]; exact decide_eq_true HV.out
    have HN := Lib.hid (show ivN l m = (l.length : Int) ∧ ivL l m = adjL l.length (symR (ivR l m)) by unfold ivN ivL; rw [if_pos HV.out, if_pos HV.out]; exact ⟨rfl, rfl⟩)
    obtain ⟨hl1, hl7⟩ := HV.out.1
    have hml : l.length ≤ m.length := by have := HV.out.2.1; omega
    have hmk := fun W : World => run_make_row' (P := Try.prog) 22 3 (.int .i64 0) 8 Try.underlying22 infoInt rfl .i64 .i64 l.length (by omega) (by omega) W
    have x0 : w2.cell? ⟨w.heap.size, 0, none⟩ = some (.slice ad l.length cap) := (A0.out.on BB2.out).1 0 _ rfl
    have x1 : w2.cell? ⟨w.heap.size, 1, none⟩ = some (.slice bd m.length cap') := (A0.out.on BB2.out).1 1 _ rfl
    go_wp2
    clear hmk x0 x1
    go_loopw [6] (fun i wr => ∃ (k : Nat) (u : Value), k ≤ l.length ∧ i = .int .i64 k ∧ CurQ w0 (w2.heap.size + 1) l.length (adjL l.length (partR (ivR l m) k 0)) u wr) (fun i _ => l.length - (intOf i).toNat)
    case atStart => exact ⟨0, _, by omega, rfl, CurQ.init w0 w2 l.length _ hl7 BL2.out BB2.out⟩
    case round =>
      obtain ⟨i, u, hi, rfl, hC⟩ := hrel
      by_cases hin : i < l.length
      · have HC0 := Lib.hid hC
        clear hC
        go_wp2
        go_loopw [7] (fun x wr => ∃ (m_ : Nat) (u : Value), m_ ≤ i ∧ x = .int .i64 m_ ∧ CurQ w0 (w2.heap.size + 1) l.length (adjL l.length (partR (ivR l m) i m_)) u wr) (fun x _ => i - (intOf x).toNat)
        case atStart => exact ⟨0, u, by omega, rfl, HC0.out⟩
        case round =>
          clear HC0
          obtain ⟨j, u, hji, rfl, hC⟩ := hrel
          have HC := Lib.hid hC
          clear hC
          by_cases hj7 : j < i
          · have HWW := Lib.hid (F0.out.trans (HC.out.2.2.2.1.mono F0.out.size))
            have x0 : wr.cell? ⟨w.heap.size, 0, none⟩ = some (.slice ad l.length cap) := (A0.out.on HC.out.2.2.2.1).1 0 _ rfl
            have x1 : wr.cell? ⟨w.heap.size, 1, none⟩ = some (.slice bd m.length cap') := (A0.out.on HC.out.2.2.2.1).1 1 _ rfl
            obtain ⟨b', off', cap1, hv, _, _, hb', hcell⟩ := (HI.out.on HWW.out).pos (by omega)
            simp only [Value.slice.injEq] at hv
            obtain ⟨rfl, -, rfl⟩ := hv
            obtain ⟨b3, off3, cap3, hv, _, _, hb3, hcell'⟩ := (HJ.out.on HWW.out).pos (by omega)
            simp only [Value.slice.injEq] at hv
            obtain ⟨rfl, -, rfl⟩ := hv
            obtain ⟨x, hx⟩ : ∃ z, z = nth l i := ⟨_, rfl⟩
            obtain ⟨y, hy⟩ : ∃ z, z = nth m i := ⟨_, rfl⟩
            obtain ⟨x', hx'⟩ : ∃ z, z = nth l j := ⟨_, rfl⟩
            obtain ⟨y', hy'⟩ : ∃ z, z = nth m j := ⟨_, rfl⟩
            have e0 := hcell i (by omega)
            have e1 := hcell j (by omega)
            have e2 := hcell' i (by omega)
            have e3 := hcell' j (by omega)
            rw [← hx] at e0
            rw [← hx'] at e1
            rw [← hy] at e2
            rw [← hy'] at e3
            obtain ⟨⟨c0, c1, cz⟩, c2, c3⟩ := HC.out.2.1
            have HXY := Lib.hid (show ivR l m j i = decide (x' ≤ y ∧ x ≤ y') by unfold ivR; rw [hx, hy, hx', hy'])
            have hjl : j < l.length := by omega
            have him : i < m.length := by omega
            have hjm : j < m.length := by omega
            clear hcell hcell' hx hy hx' hy'
            by_cases hr1 : x ≤ y'
            · have q1 : decide (x ≤ y') = true := by simp [hr1]
              by_cases hr2 : x' ≤ y
              · have q2 : decide (x' ≤ y) = true := by simp [hr2]
                have HRT := Lib.hid (show ivR l m j i = true by rw [HXY.out]; exact decide_eq_true ⟨hr2, hr1⟩)
                have HY := Lib.hid (part_step' l.length (ivR l m) i j hin hj7 HRT.out)
                have HOK := Lib.hid (part_ok l.length (ivR l m) i j hl1 hl7 hin hj7)
                clear hr1 hr2
                go_wp2
                go_quiet (fail)
                go_wp2_with fail
                refine (specAddEdge_yes l.length _ (adjL l.length (partR (ivR l m) i j)) i j _ (HC.out.1.ints.on (below_drewN (Below.refl _ _) _)) (by rw [adjL_length]; omega) HC.out.1.nilform HOK.out).mono ?_
                rintro e w5 ⟨v5, rfl, ho, hb⟩
                rw [Int.toNat_natCast, Int.toNat_natCast, HY.out] at ho
                replace hb := (below_drewN (Below.refl wr.heap.size wr) _).trans hb
                obtain ⟨a5, cap5, rfl, -, -⟩ := ho.ints.form
                have HC5 := Lib.hid (HC.out.next ho hb)
                obtain ⟨⟨g0, g1, gz⟩, g2, g3⟩ := HC.out.2.1.keep (below_grown hb) (by simp)
                clear ho hb c0 c1 cz c2 c3 e0 e1 e2 e3 x0 x1
                go_wp2
                go_roundw
                case rel => exact ⟨j + 1, _, by omega, by go_num, HC5.out⟩
                case measure => simp [intOf]; omega
              · have q2 : decide (x' ≤ y) = false := by simp; omega
                have HRT := Lib.hid (show ivR l m j i = false by rw [HXY.out]; exact decide_eq_false fun h => hr2 h.1)
                have HY := Lib.hid (part_same l.length (ivR l m) i j hj7 HRT.out)
                clear c0 c1 cz c2 c3 hr1 hr2
                go_wp2
                go_quiet (fail)
                go_wp2
                go_roundw
                case rel => exact ⟨j + 1, u, by omega, by go_num, by rw [← HY.out]; exact HC.out.on (below_drewN (Below.refl _ _) _)⟩
                case measure => simp [intOf]; omega
            · have q1 : decide (x ≤ y') = false := by simp; omega
              have HRT := Lib.hid (show ivR l m j i = false by rw [HXY.out]; exact decide_eq_false fun h => hr1 h.2)
              have HY := Lib.hid (part_same l.length (ivR l m) i j hj7 HRT.out)
              clear c0 c1 cz c2 c3 hr1
              go_wp2
              go_quiet (fail)
              go_wp2
              go_roundw
              case rel => exact ⟨j + 1, u, by omega, by go_num, by rw [← HY.out]; exact HC.out.on (below_drewN (Below.refl _ _) _)⟩
              case measure => simp [intOf]; omega
          · obtain rfl : j = i := by omega
            have HY := Lib.hid (show adjL l.length (partR (ivR l m) (j + 1) 0) = adjL l.length (partR (ivR l m) j j) from adjL_congr l.length _ _ fun a _ b _ => (partR_next (ivR l m) j a b).symm)
            go_wp2
            go_roundw
            case rel => exact ⟨j + 1, u, by omega, by go_num, by rw [HY.out]; exact HC.out⟩
            case measure => simp [intOf]; omega
      · obtain rfl : i = l.length := by omega
        have HALL := Lib.hid (show adjL l.length (symR (ivR l m)) = adjL l.length (partR (ivR l m) l.length 0) from adjL_congr l.length _ _ fun a ha b hb => (partR_all (ivR l m) l.length a b ha hb).symm)
        have hsz := Lib.hid BB2.out.size
        obtain ⟨hown, ⟨⟨c0, c1, cz⟩, c2, c3⟩, ⟨b0, b1, b2, b3, b4⟩, hbel, -⟩ := hC
        rw [hz0] at b0 b1 b2 b3 b4
        obtain ⟨au, capu, rfl, -, -⟩ := hown.ints.form
        have HO := Lib.hid hown
        have HB := Lib.hid hbel
        clear hown hbel
        go_wp2
        refine bodyPost_ret (v := .tuple #[.agg #[.int .i64 l.length, .slice au _ capu], .bool true]) (by simp [results, Try.results19, go_sem, b0, b1, b2, b3] <;> rfl) rfl ?_
        rw [HN.out.1, HN.out.2, HALL.out]
        refine ⟨_, rfl, ?_, ?_⟩
        · exact ((HO.out.setBelow (a := ⟨w.heap.size + 1, 0, none⟩) (by show w.heap.size + 1 < w0.heap.size + 1; omega) _).setBelow (a := ⟨w.heap.size + 1, 1, none⟩) (by show w.heap.size + 1 < w0.heap.size + 1; omega) _).mono (by omega)
        · exact F0.out.trans (((HB.out.setCell (p := ⟨w.heap.size + 1, 0, none⟩) (by show w0.heap.size ≤ w.heap.size + 1; omega) _).setCell (p := ⟨w.heap.size + 1, 1, none⟩) (by show w0.heap.size ≤ w.heap.size + 1; omega) _).mono F0.out.size)

end Go.Proofs.Ytbmpljclplddeab
