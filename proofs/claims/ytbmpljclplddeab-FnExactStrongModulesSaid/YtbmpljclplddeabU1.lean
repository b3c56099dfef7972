/- slices.Contains, slices.ContainsFunc; the implementation's StrongModules. -/
import Derived.Test.YtbmpljclplddeabM9
namespace Go.Proofs.Ytbmpljclplddeab
set_option linter.unusedVariables false
set_option linter.unusedSimpArgs false
open Go.RowKit

set_option maxHeartbeats 1000000 in
theorem slicesIndex (v : Value) (l : List Int) (x : Int) (w : World) (h : Ints w v l) (hl : l.length ≤ 1048576) :
    Calls Try.prog 132 #[v, .int .i64 x] w (fun e w' => ∃ r : Int, e = .returned (.int .i64 r) ∧ (0 ≤ r ↔ x ∈ l) ∧ Below w.heap.size w w') := by
  obtain ⟨ad, cap, rfl, -, -⟩ := h.form
  have HI := Lib.hid h
  clear h
  go_enter Try.func132, Try.ntmps132
  go_wp2
  go_loopw [8] (fun i wr => ∃ j : Nat, j ≤ l.length ∧ i = .int .i64 j ∧ Below w.heap.size w wr ∧ Hid (∀ q, q < j → nth l q ≠ x)) (fun i _ => l.length - (intOf i).toNat)
  case atStart => exact ⟨0, by omega, rfl, Below.refl _ _, fun i hi => absurd hi (by omega)⟩
  case round =>
    obtain ⟨j, hj, rfl, hbel, HO⟩ := hrel
    have HB := Lib.hid hbel
    by_cases hlt : j < l.length
    · obtain ⟨b1, off1, cap1, hv, _, _, hb1, hc1⟩ := (HI.out.on hbel).pos (by omega)
      simp only [Value.slice.injEq] at hv
      obtain ⟨rfl, -, rfl⟩ := hv
      obtain ⟨y, hy⟩ : ∃ y, y = nth l j := ⟨_, rfl⟩
      have c1 := hc1 j hlt
      rw [← hy] at c1
      have HY := Lib.hid hy
      clear hc1 hy hbel
      by_cases he : x = y
      · have d0 : (x == y) = true := by rw [beq_iff_eq]; exact he
        have HN := Lib.hid (show ((0 : Int) ≤ (j : Int)) ↔ x ∈ l from ⟨fun _ => by
          rw [he, HY.out]; unfold nth; rw [List.getD_eq_getElem?_getD, List.getElem?_eq_getElem hlt]; exact List.getElem_mem hlt, fun _ => by omega⟩)
        clear he
        go_wp2
        go_ret
        exact ⟨_, rfl, HN.out, HB.out⟩
      · have d0 : (x == y) = false := by rw [beq_eq_false_iff_ne]; exact he
        have HN : Hid (∀ q, q < j + 1 → nth l q ≠ x) := fun q hq => by
          rcases Nat.lt_or_ge q j with h | h
          · exact HO.out q h
          · obtain rfl : q = j := by omega
            rw [← HY.out]; exact fun h => he h.symm
        clear he
        go_wp2
        go_roundw
        case rel => exact ⟨j + 1, by omega, by go_num, HB.out, HN.out⟩
        case measure => simp [intOf]; omega
    · obtain rfl : j = l.length := by omega
      have HN := Lib.hid (show ((0 : Int) ≤ -1) ↔ x ∈ l from ⟨fun h => absurd h (by decide), fun h => by
        obtain ⟨i, hi, he⟩ := List.mem_iff_getElem.1 h
        exact absurd (by unfold nth; rw [List.getD_eq_getElem?_getD, List.getElem?_eq_getElem hi]; exact he) (HO.out i hi)⟩)
      clear hbel
      go_wp2
      go_ret
      exact ⟨_, rfl, HN.out, HB.out⟩

theorem slicesContains (v : Value) (l : List Int) (x : Int) (w : World) (h : Ints w v l) (hl : l.length ≤ 1048576) :
    Calls Try.prog 95 #[v, .int .i64 x] w (fun e w' => e = .returned (.bool (decide (x ∈ l))) ∧ Below w.heap.size w w') := by
  obtain ⟨ad, cap, rfl, -, -⟩ := h.form
  have HI := Lib.hid h
  clear h
  obtain ⟨b, hb⟩ : ∃ b, b = decide (x ∈ l) := ⟨_, rfl⟩
  have HBB := Lib.hid hb
  rw [← hb]
  clear hb
  go_enter Try.func95, Try.ntmps95
  go_wp2_with fail
  refine (slicesIndex _ l x _ HI.out hl).mono ?_
  rintro e w1 ⟨r, rfl, hr, hb⟩
  have HB := Lib.hid hb
  have HE := Lib.hid (show b = decide ((0 : Int) ≤ r) by rw [HBB.out]; exact decide_eq_decide.2 hr.symm)
  clear hb hr
  go_wp2
  go_ret
  exact ⟨by rw [HE.out] <;> rfl, HB.out⟩

set_option maxHeartbeats 1000000 in
theorem slicesIndexFunc (v : Value) (l : List Int) (f : FuncId) (cp : Array Value) (p : Int → Bool) (w : World) (h : Ints w v l) (hl : l.length ≤ 1048576) (he : Enters f)
    (hr : ∀ W (y : Int), y ∈ l → Below w.heap.size w W → Calls Try.prog f (#[.int .i64 y] ++ cp) W fun e W' => e = .returned (.bool (p y)) ∧ Below W.heap.size W W') :
    Calls Try.prog 133 #[v, .func (.func f) #[] cp] w (fun e w' => ∃ r : Int, e = .returned (.int .i64 r) ∧ (0 ≤ r ↔ l.any p = true) ∧ Below w.heap.size w w') := by
  obtain ⟨ad, cap, rfl, -, -⟩ := h.form
  have HI := Lib.hid h
  have HRU := Lib.hid hr
  clear h hr
  unfold Enters at he
  go_enter Try.func133, Try.ntmps133
  go_wp2
  go_loopw [8] (fun i wr => ∃ j : Nat, j ≤ l.length ∧ i = .int .i64 j ∧ Below w.heap.size w wr ∧ Hid (∀ q, q < j → p (nth l q) = false)) (fun i _ => l.length - (intOf i).toNat)
  case atStart => exact ⟨0, by omega, rfl, Below.refl _ _, fun i hi => absurd hi (by omega)⟩
  case round =>
    obtain ⟨j, hj, rfl, hbel, HO⟩ := hrel
    have HB := Lib.hid hbel
    by_cases hlt : j < l.length
    · obtain ⟨b1, off1, cap1, hv, _, _, hb1, hc1⟩ := (HI.out.on hbel).pos (by omega)
      simp only [Value.slice.injEq] at hv
      obtain ⟨rfl, -, rfl⟩ := hv
      obtain ⟨y, hy⟩ : ∃ y, y = nth l j := ⟨_, rfl⟩
      have c1 := hc1 j hlt
      rw [← hy] at c1
      have HY := Lib.hid hy
      have HM := Lib.hid (show y ∈ l by
        rw [hy]; unfold nth; rw [List.getD_eq_getElem?_getD, List.getElem?_eq_getElem hlt]; exact List.getElem_mem hlt)
      clear hc1 hy hbel
      go_wp2_with fail
      refine (HRU.out _ y HM.out HB.out).mono ?_
      rintro e w2 ⟨rfl, hb2⟩
      have HB2 := Lib.hid (HB.out.trans (hb2.mono HB.out.size))
      clear hb2 c1
      cases hp : p y with
      | true =>
        have HN := Lib.hid (show ((0 : Int) ≤ (j : Int)) ↔ l.any p = true from ⟨fun _ => List.any_eq_true.2 ⟨y, HM.out, hp⟩, fun _ => by omega⟩)
        clear hp
        go_wp2
        go_ret
        exact ⟨_, rfl, HN.out, HB2.out⟩
      | false =>
        have HN : Hid (∀ q, q < j + 1 → p (nth l q) = false) := fun q hq => by
          rcases Nat.lt_or_ge q j with h | h
          · exact HO.out q h
          · obtain rfl : q = j := by omega
            rw [← HY.out]; exact hp
        clear hp
        go_wp2
        go_roundw
        case rel => exact ⟨j + 1, by omega, by go_num, HB2.out, HN.out⟩
        case measure => simp [intOf]; omega
    · obtain rfl : j = l.length := by omega
      have HN := Lib.hid (show ((0 : Int) ≤ -1) ↔ l.any p = true from ⟨fun h => absurd h (by decide), fun h => by
        obtain ⟨y, hy, hp⟩ := List.any_eq_true.1 h
        obtain ⟨i, hi, he⟩ := List.mem_iff_getElem.1 hy
        have := HO.out i hi
        unfold nth at this
        rw [List.getD_eq_getElem?_getD, List.getElem?_eq_getElem hi, Option.getD_some, he, hp] at this
        cases this⟩)
      clear hbel
      go_wp2
      go_ret
      exact ⟨_, rfl, HN.out, HB.out⟩

theorem slicesContainsFunc (v : Value) (l : List Int) (f : FuncId) (cp : Array Value) (p : Int → Bool) (w : World) (h : Ints w v l) (hl : l.length ≤ 1048576) (he : Enters f)
    (hr : ∀ W (y : Int), y ∈ l → Below w.heap.size w W → Calls Try.prog f (#[.int .i64 y] ++ cp) W fun e W' => e = .returned (.bool (p y)) ∧ Below W.heap.size W W') :
    Calls Try.prog 96 #[v, .func (.func f) #[] cp] w (fun e w' => e = .returned (.bool (l.any p)) ∧ Below w.heap.size w w') := by
  obtain ⟨ad, cap, rfl, -, -⟩ := h.form
  have HI := Lib.hid h
  have HRU := Lib.hid hr
  have HEN := Lib.hid he
  clear h hr he
  obtain ⟨b, hb⟩ : ∃ b, b = l.any p := ⟨_, rfl⟩
  have HBB := Lib.hid hb
  rw [← hb]
  clear hb
  go_enter Try.func96, Try.ntmps96
  go_wp2_with fail
  refine (slicesIndexFunc _ l f cp p _ HI.out hl HEN.out HRU.out).mono ?_
  rintro e w1 ⟨r, rfl, hr, hb⟩
  have HB := Lib.hid hb
  have HE := Lib.hid (show b = decide ((0 : Int) ≤ r) by
    rw [HBB.out]
    cases h : l.any p with
    | true => exact (decide_eq_true (hr.2 h)).symm
    | false => exact (decide_eq_false (fun h' => by have := hr.1 h'; rw [h] at this; cases this)).symm)
  clear hb hr
  go_wp2
  go_ret
  exact ⟨by rw [HE.out] <;> rfl, HB.out⟩

def ovI (x y : Int) : Bool := (bits .and .i64 x y != 0) && (bits .andNot .i64 x y != 0) && (bits .andNot .i64 y x != 0)

theorem overlap_is (x y : Int) (w : World) : Calls Try.prog 91 #[.int .i64 x, .int .i64 y] w (fun e w' => e = .returned (.bool (ovI x y)) ∧ Below w.heap.size w w') := by
  obtain ⟨b, hb⟩ : ∃ b, b = ovI x y := ⟨_, rfl⟩
  obtain ⟨P, hP⟩ : ∃ P, P = bits .and .i64 x y := ⟨_, rfl⟩
  obtain ⟨Q, hQ⟩ : ∃ Q, Q = bits .andNot .i64 x y := ⟨_, rfl⟩
  obtain ⟨S, hS⟩ : ∃ S, S = bits .andNot .i64 y x := ⟨_, rfl⟩
  have HB := Lib.hid (show b = ((P != 0) && (Q != 0) && (S != 0)) by rw [hb, hP, hQ, hS]; rfl)
  rw [← hb]
  have e1 : bits .and .i64 x y = P := hP.symm
  have e2 : bits .andNot .i64 x y = Q := hQ.symm
  have e3 : bits .andNot .i64 y x = S := hS.symm
  clear hb hP hQ hS
  cases hp : (P != 0) with
  | false =>
    have HE := Lib.hid (show b = false by rw [HB.out, hp]; rfl)
    go_enter Try.func91, Try.ntmps91
    go_wp2
    go_ret
    exact ⟨by rw [HE.out] <;> rfl, Below.refl _ _⟩
  | true =>
    cases hq : (Q != 0) with
    | false =>
      have HE := Lib.hid (show b = false by rw [HB.out, hp, hq]; rfl)
      go_enter Try.func91, Try.ntmps91
      go_wp2
      go_ret
      exact ⟨by rw [HE.out] <;> rfl, Below.refl _ _⟩
    | true =>
      cases hs : (S != 0) with
      | false =>
        have HE := Lib.hid (show b = false by rw [HB.out, hp, hq, hs]; rfl)
        go_enter Try.func91, Try.ntmps91
        go_wp2
        go_ret
        exact ⟨by rw [HE.out] <;> rfl, Below.refl _ _⟩
      | true =>
        have HE := Lib.hid (show b = true by rw [HB.out, hp, hq, hs]; rfl)
        go_enter Try.func91, Try.ntmps91
        go_wp2
        go_ret
        exact ⟨by rw [HE.out] <;> rfl, Below.refl _ _⟩

set_option maxRecDepth 100000 in
theorem enters_str1 : Enters 94 := fun args W => by rfl

set_option maxRecDepth 100000 in
theorem enters_str2 : Enters 97 := fun args W => by rfl

theorem rule_str2 (q : Nat) (x y : Int) (w : World) (hc : w.cell? ⟨q, 0, none⟩ = some (.int .i64 x)) :
    Calls Try.prog 97 #[.int .i64 y, .pointer (some ⟨q, 0, none⟩)] w (fun e w' => e = .returned (.bool (ovI x y)) ∧ Below w.heap.size w w') := by
  obtain ⟨b, hb⟩ : ∃ b, b = ovI x y := ⟨_, rfl⟩
  have HB := Lib.hid hb
  rw [← hb]
  clear hb
  go_enter Try.func97, Try.ntmps97
  go_wp2_with fail
  refine (overlap_is x y _).mono ?_
  rintro e w1 ⟨rfl, hb1⟩
  have H1 := Lib.hid hb1
  rw [← HB.out]
  clear hb1
  go_wp2
  go_ret
  exact ⟨rfl, H1.out⟩

/-- One of them, and one that overlaps none of them. -/
def strB (M : List Int) (x : Nat) : Bool := decide ((x : Int) ∈ M) && !(M.any fun y => ovI x y)

set_option maxHeartbeats 1000000 in
set_option maxRecDepth 100000 in
theorem rule_str1 (q : Nat) (v : Value) (M : List Int) (m : Nat) (W0 : World) (hc : W0.cell? ⟨q, 0, none⟩ = some v) (hq : q < W0.heap.size) (hI : Ints W0 v M) (hM : M.length ≤ 1048576) :
    Rule1 94 #[.pointer (some ⟨q, 0, none⟩)] m (strB M) W0 := by
  intro W x hx hbel
  have c0 : W.cell? ⟨q, 0, none⟩ = some v := (hbel.cell (p := ⟨q, 0, none⟩) hq).trans hc
  have hq2 : q < W.heap.size := by have := hbel.size; omega
  obtain ⟨a, cap, rfl, -, -⟩ := hI.form
  have HI := Lib.hid (hI.on hbel)
  have hmf : ∀ (fn : Fn) (first cap : Array Value) (w : World), (Instr.makeFunc fn first cap).run Try.prog w = .ok (.func fn first cap) w := fun _ _ _ _ => rfl
  obtain ⟨b, hb⟩ : ∃ b, b = strB M x := ⟨_, rfl⟩
  have HB := Lib.hid hb
  rw [← hb]
  have HC0 := Lib.hid c0
  clear hI hbel hx hc hq hb
  show Calls Try.prog 94 #[.int .i64 x, .pointer (some ⟨q, 0, none⟩)] W _
  obtain ⟨W1, hW1⟩ : ∃ W1, W1 = W.alloc (.cells #[.int .i64 x] 3) := ⟨_, rfl⟩
  have HI1 := Lib.hid (show Ints W1 (.slice a M.length cap) M by rw [hW1]; exact HI.out.alloc _)
  have HB1 := Lib.hid (show Below W.heap.size W W1 by rw [hW1]; exact (Below.refl _ W).alloc (Nat.le_refl _) _)
  have HX1 := Lib.hid (show W1.cell? ⟨W.heap.size, 0, none⟩ = some (.int .i64 x) by rw [hW1]; simp [go_sem])
  have HZ1 := Lib.hid (show W1.heap.size = W.heap.size + 1 by rw [hW1]; simp)
  have HC1 := Lib.hid ((HB1.out.cell (p := ⟨q, 0, none⟩) hq2).trans HC0.out)
  go_enter Try.func94, Try.ntmps94
  go_wp2_with fail
  rw [← hW1]
  clear hW1 c0
  refine (slicesContains _ M x _ HI1.out hM).mono ?_
  rintro e w2 ⟨rfl, hb2⟩
  have HB2 := Lib.hid hb2
  have c1 : w2.cell? ⟨q, 0, none⟩ = some (.slice a M.length cap) := (hb2.cell (p := ⟨q, 0, none⟩) (by have := HZ1.out; show q < W1.heap.size; omega)).trans HC1.out
  have HX2 := Lib.hid ((hb2.cell (p := ⟨W.heap.size, 0, none⟩) (by have := HZ1.out; show W.heap.size < W1.heap.size; omega)).trans HX1.out)
  have hz2 := Lib.hid (show W.heap.size < w2.heap.size by have := HZ1.out; have := hb2.size; omega)
  clear hb2
  cases hm : decide ((x : Int) ∈ M) with
  | false =>
    have HE := Lib.hid (show b = false by rw [HB.out]; unfold strB; rw [hm]; rfl)
    have HW := Lib.hid (HB1.out.trans (HB2.out.mono (by have := HZ1.out; omega)))
    clear hm
    go_wp2
    go_ret
    exact ⟨by rw [HE.out] <;> rfl, HW.out⟩
  | true =>
    have HE := Lib.hid (show b = !(M.any fun y => ovI x y) by rw [HB.out]; unfold strB; rw [hm]; rfl)
    clear hm
    go_wp2_with fail
    refine (slicesContainsFunc _ M 97 #[.pointer (some ⟨W.heap.size, 0, none⟩)] (fun y => ovI x y) _ (HI1.out.on HB2.out) hM enters_str2 (fun W' y _ hW' => rule_str2 W.heap.size x y W' ((hW'.cell (p := ⟨W.heap.size, 0, none⟩) hz2.out).trans HX2.out))).mono ?_
    rintro e w3 ⟨rfl, hb3⟩
    obtain ⟨c, hcc⟩ : ∃ c, c = M.any fun y => ovI x y := ⟨_, rfl⟩
    have HE2 := Lib.hid (show b = !c by rw [HE.out, hcc])
    rw [← hcc]
    have HW := Lib.hid ((HB1.out.trans (HB2.out.mono (by have := HZ1.out; omega))).trans (hb3.mono (by have := hz2.out; omega)))
    clear hb3 hcc
    go_wp2
    go_ret
    exact ⟨by rw [HE2.out] <;> rfl, HW.out⟩

end Go.Proofs.Ytbmpljclplddeab
