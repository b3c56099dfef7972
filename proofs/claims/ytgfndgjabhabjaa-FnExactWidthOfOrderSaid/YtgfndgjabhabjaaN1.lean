/- Walks over NamedGraph. -/
import Derived.Test.YtgfndgjabhabjaaG8
namespace Go.Proofs.Ytgfndgjabhabjaa
set_option linter.unusedVariables false
set_option linter.unusedSimpArgs false
open Go.RowKit

/-- The names. -/
def nmL : Nat → List UInt8
  | 0 => [112, 97, 116, 104]
  | 1 => [99, 121, 99, 108, 101]
  | 2 => [99, 111, 109, 112, 108, 101, 116, 101]
  | 3 => [115, 116, 97, 114]
  | 4 => [119, 104, 101, 101, 108]
  | _ => [101, 109, 112, 116, 121]

/-- Which pairs a name joins. -/
def namR (k n : Nat) : Nat → Nat → Bool :=
  match k with
  | 0 => fun v w => decide (w = v + 1)
  | 1 => fun v w => decide (w = v + 1) || (decide (v = 0) && decide (w + 1 = n))
  | 2 => fun _ _ => true
  | 3 => fun v _ => decide (v = 0)
  | 4 => fun v w => decide (v = 0) || decide (w = v + 1) || (decide (v = 1) && decide (w + 1 = n))
  | _ => fun _ _ => false

/-- Which name it is. -/
def namK (s : List UInt8) : Option Nat :=
  if s == nmL 0 then some 0
  else if s == nmL 1 then some 1
  else if s == nmL 2 then some 2
  else if s == nmL 3 then some 3
  else if s == nmL 4 then some 4
  else if s == nmL 5 then some 5
  else none

def NamOk (s : List UInt8) (x : Int) : Prop := (namK s).isSome = true ∧ 1 ≤ x ∧ x ≤ 7

instance (s : List UInt8) (x : Int) : Decidable (NamOk s x) := by unfold NamOk; infer_instance

def namN (s : List UInt8) (x : Int) : Int := if NamOk s x then x else 0

def namL (s : List UInt8) (x : Int) : List Int := if NamOk s x then adjL x.toNat (symR (namR ((namK s).getD 0) x.toNat)) else []

theorem namL_length (s : List UInt8) (x : Int) : (namL s x).length ≤ 7 := by
  unfold namL
  split
  · rename_i h
    rw [adjL_length]
    have := h.2
    omega
  · simp

set_option maxRecDepth 100000 in
theorem enters_nam0 : Enters 124 := fun args W => by rfl

set_option maxHeartbeats 1000000 in
theorem rule_nam0 (n : Nat) (W0 : World) (hn : n ≤ 7) :
    Rule 124 #[] n (namR 0 n) W0 := by
  intro W i j hij hj hbel
  show Calls Try.prog 124 #[.int .i64 i, .int .i64 j] W _
  by_cases a1 : j = i + 1
  · have a1b : ((j : Int) == (i : Int) + 1) = true := by simp; omega
    have a1h := Lib.hid a1
    clear a1
    go_enter Try.func124, Try.ntmps124
    go_wp2
    go_ret
    exact ⟨ret_bool (by have a1q := a1h.out; simp [namR, a1q] <;> omega), Below.refl _ _⟩
  · have a1b : ((j : Int) == (i : Int) + 1) = false := by simp; omega
    go_enter Try.func124, Try.ntmps124
    go_wp2
    go_ret
    exact ⟨ret_bool (by simp [namR, a1] <;> omega), Below.refl _ _⟩

set_option maxRecDepth 100000 in
theorem enters_nam1 : Enters 125 := fun args W => by rfl

set_option maxHeartbeats 1000000 in
theorem rule_nam1 (n : Nat) (W0 : World) (hn : n ≤ 7) (q : Nat) (hq : W0.cell? ⟨q, 0, none⟩ = some (.int .i64 n)) (hq2 : q < W0.heap.size) :
    Rule 125 #[.pointer (some ⟨q, 0, none⟩)] n (namR 1 n) W0 := by
  intro W i j hij hj hbel
  have c0 := (hbel.cell (p := ⟨q, 0, none⟩) hq2).trans hq
  clear hq hq2 hbel
  show Calls Try.prog 125 #[.int .i64 i, .int .i64 j, .pointer (some ⟨q, 0, none⟩)] W _
  by_cases a1 : j = i + 1
  · have a1b : ((j : Int) == (i : Int) + 1) = true := by simp; omega
    have a1h := Lib.hid a1
    clear a1
    go_enter Try.func125, Try.ntmps125
    go_wp2
    go_ret
    exact ⟨ret_bool (by have a1q := a1h.out; simp [namR, a1q] <;> omega), Below.refl _ _⟩
  · have a1b : ((j : Int) == (i : Int) + 1) = false := by simp; omega
    by_cases a0 : i = 0
    · have a0b : ((i : Int) == 0) = true := by simp; omega
      have a0h := Lib.hid a0
      clear a0
      by_cases a2 : j + 1 = n
      · have a2b : ((j : Int) == (n : Int) - 1) = true := by simp; omega
        have a2h := Lib.hid a2
        clear a2
        go_enter Try.func125, Try.ntmps125
        go_wp2
        go_ret
        exact ⟨ret_bool (by have a0q := a0h.out; have a2q := a2h.out; simp [namR, a1, a0q, a2q] <;> omega), Below.refl _ _⟩
      · have a2b : ((j : Int) == (n : Int) - 1) = false := by simp; omega
        go_enter Try.func125, Try.ntmps125
        go_wp2
        go_ret
        exact ⟨ret_bool (by have a0q := a0h.out; simp [namR, a1, a0q, a2] <;> omega), Below.refl _ _⟩
    · have a0b : ((i : Int) == 0) = false := by simp; omega
      go_enter Try.func125, Try.ntmps125
      go_wp2
      go_ret
      exact ⟨ret_bool (by simp [namR, a1, a0] <;> omega), Below.refl _ _⟩

set_option maxRecDepth 100000 in
theorem enters_nam2 : Enters 126 := fun args W => by rfl

set_option maxHeartbeats 1000000 in
theorem rule_nam2 (n : Nat) (W0 : World) (hn : n ≤ 7) :
    Rule 126 #[] n (namR 2 n) W0 := by
  intro W i j hij hj hbel
  show Calls Try.prog 126 #[.int .i64 i, .int .i64 j] W _
  go_enter Try.func126, Try.ntmps126
  go_wp2
  go_ret
  exact ⟨ret_bool (by simp [namR] <;> omega), Below.refl _ _⟩

set_option maxRecDepth 100000 in
theorem enters_nam3 : Enters 127 := fun args W => by rfl

set_option maxHeartbeats 1000000 in
theorem rule_nam3 (n : Nat) (W0 : World) (hn : n ≤ 7) :
    Rule 127 #[] n (namR 3 n) W0 := by
  intro W i j hij hj hbel
  show Calls Try.prog 127 #[.int .i64 i, .int .i64 j] W _
  by_cases a0 : i = 0
  · have a0b : ((i : Int) == 0) = true := by simp; omega
    have a0h := Lib.hid a0
    clear a0
    go_enter Try.func127, Try.ntmps127
    go_wp2
    go_ret
    exact ⟨ret_bool (by have a0q := a0h.out; simp [namR, a0q] <;> omega), Below.refl _ _⟩
  · have a0b : ((i : Int) == 0) = false := by simp; omega
    go_enter Try.func127, Try.ntmps127
    go_wp2
    go_ret
    exact ⟨ret_bool (by simp [namR, a0] <;> omega), Below.refl _ _⟩

set_option maxRecDepth 100000 in
theorem enters_nam4 : Enters 128 := fun args W => by rfl

set_option maxHeartbeats 1000000 in
theorem rule_nam4 (n : Nat) (W0 : World) (hn : n ≤ 7) (q : Nat) (hq : W0.cell? ⟨q, 0, none⟩ = some (.int .i64 n)) (hq2 : q < W0.heap.size) :
    Rule 128 #[.pointer (some ⟨q, 0, none⟩)] n (namR 4 n) W0 := by
  intro W i j hij hj hbel
  have c0 := (hbel.cell (p := ⟨q, 0, none⟩) hq2).trans hq
  clear hq hq2 hbel
  show Calls Try.prog 128 #[.int .i64 i, .int .i64 j, .pointer (some ⟨q, 0, none⟩)] W _
  by_cases a0 : i = 0
  · have a0b : ((i : Int) == 0) = true := by simp; omega
    have a0h := Lib.hid a0
    clear a0
    go_enter Try.func128, Try.ntmps128
    go_wp2
    go_ret
    exact ⟨ret_bool (by have a0q := a0h.out; simp [namR, a0q] <;> omega), Below.refl _ _⟩
  · have a0b : ((i : Int) == 0) = false := by simp; omega
    by_cases a1 : j = i + 1
    · have a1b : ((j : Int) == (i : Int) + 1) = true := by simp; omega
      have a1h := Lib.hid a1
      clear a1
      go_enter Try.func128, Try.ntmps128
      go_wp2
      go_ret
      exact ⟨ret_bool (by have a1q := a1h.out; simp [namR, a0, a1q] <;> omega), Below.refl _ _⟩
    · have a1b : ((j : Int) == (i : Int) + 1) = false := by simp; omega
      by_cases a3 : i = 1
      · have a3b : ((i : Int) == 1) = true := by simp; omega
        have a3h := Lib.hid a3
        clear a3
        by_cases a2 : j + 1 = n
        · have a2b : ((j : Int) == (n : Int) - 1) = true := by simp; omega
          have a2h := Lib.hid a2
          clear a2
          go_enter Try.func128, Try.ntmps128
          go_wp2
          go_ret
          exact ⟨ret_bool (by have a3q := a3h.out; have a2q := a2h.out; simp [namR, a0, a1, a3q, a2q] <;> omega), Below.refl _ _⟩
        · have a2b : ((j : Int) == (n : Int) - 1) = false := by simp; omega
          go_enter Try.func128, Try.ntmps128
          go_wp2
          go_ret
          exact ⟨ret_bool (by have a3q := a3h.out; simp [namR, a0, a1, a3q, a2] <;> omega), Below.refl _ _⟩
      · have a3b : ((i : Int) == 1) = false := by simp; omega
        go_enter Try.func128, Try.ntmps128
        go_wp2
        go_ret
        exact ⟨ret_bool (by simp [namR, a0, a1, a3] <;> omega), Below.refl _ _⟩

set_option maxRecDepth 100000 in
theorem enters_nam5 : Enters 129 := fun args W => by rfl

set_option maxHeartbeats 1000000 in
theorem rule_nam5 (n : Nat) (W0 : World) (hn : n ≤ 7) :
    Rule 129 #[] n (namR 5 n) W0 := by
  intro W i j hij hj hbel
  show Calls Try.prog 129 #[.int .i64 i, .int .i64 j] W _
  go_enter Try.func129, Try.ntmps129
  go_wp2
  go_ret
  exact ⟨ret_bool (by simp [namR] <;> omega), Below.refl _ _⟩

set_option maxHeartbeats 2000000 in
set_option maxRecDepth 100000 in
theorem implNamed0 (a0 : ByteArray) (n : Nat) (w : World) (h1 : 1 ≤ n) (hn : n ≤ 7) (hs : a0.toList = nmL 0) :
    Calls Try.prog 97 #[.string a0, .int .i64 n] w (GetsGB w.heap.size w n (adjL n (symR (namR 0 n))) true) := by
  have hmf : ∀ (fn : Fn) (first cap : Array Value) (w : World), (Instr.makeFunc fn first cap).run Try.prog w = .ok (.func fn first cap) w := fun _ _ _ _ => rfl
  have d0 : decide ((n : Int) < 1) = false := by simp; omega
  have d1 : decide ((7 : Int) < n) = false := by simp; omega
  have e0 : (a0.toList == [112, 97, 116, 104]) = true := by rw [hs]; rfl
  have e1 : (a0.toList == [99, 121, 99, 108, 101]) = false := by rw [hs]; rfl
  have e2 : (a0.toList == [99, 111, 109, 112, 108, 101, 116, 101]) = false := by rw [hs]; rfl
  have e3 : (a0.toList == [115, 116, 97, 114]) = false := by rw [hs]; rfl
  have e4 : (a0.toList == [119, 104, 101, 101, 108]) = false := by rw [hs]; rfl
  have e5 : (a0.toList == [101, 109, 112, 116, 121]) = false := by rw [hs]; rfl
  clear hs
  obtain ⟨w1, hw1⟩ : ∃ w1, w1 = (w.alloc (.cells #[.int .i64 n] 3)).alloc (.cells #[.int .i64 0, .slice none 0 0] 44) := ⟨_, rfl⟩
  have BL1 := Lib.hid (show Blank (w.heap.size + 1) w1 by rw [hw1]; have := Blank.new (w.alloc (.cells #[.int .i64 n] 3)) 44; simpa using this)
  have BB1 := Lib.hid (show Below w.heap.size w w1 by rw [hw1]; exact ((Below.refl _ w).alloc (Nat.le_refl _) _).alloc (by simp) _)
  have C1 := Lib.hid (show w1.cell? ⟨w.heap.size, 0, none⟩ = some (.int .i64 n) by rw [hw1]; simp [go_sem])
  have hz1 : w1.heap.size = w.heap.size + 2 := by rw [hw1]; simp
  go_enter Try.func97, Try.ntmps97
  go_wp2_with fail
  rw [← hw1]
  clear hw1
  refine (graphWith_any 124 #[] n (namR 0 n) _ h1 hn enters_nam0 (rule_nam0 n _ hn)).mono ?_
  rintro e w2 ⟨v2, rfl, ho, hb⟩
  have BL2 := BL1.out.keep (below_grown hb) (by simp)
  have BB2 := Lib.hid (BB1.out.trans (hb.mono BB1.out.size))
  obtain ⟨a2, cap2, rfl, -, -⟩ := ho.ints.form
  have HO := Lib.hid ho
  clear ho hb hmf
  obtain ⟨b0, b1, b2, b3, b4⟩ := BL2
  go_wp2
  refine bodyPost_ret (v := .tuple #[.agg #[.int .i64 n, .slice a2 _ cap2], .bool true]) (by simp [results, Try.results97, go_sem, b0, b1, b2, b3]; rfl) rfl ⟨_, rfl, ?_, ?_⟩
  · exact ((HO.out.setBelow (a := ⟨w.heap.size + 1, 0, none⟩) (by show w.heap.size + 1 < w1.heap.size; omega) _).setBelow (a := ⟨w.heap.size + 1, 1, none⟩) (by show w.heap.size + 1 < w1.heap.size; omega) _).mono BB1.out.size
  · exact (BB2.out.setCell (by simp) _).setCell (by simp) _

set_option maxHeartbeats 2000000 in
set_option maxRecDepth 100000 in
theorem implNamed1 (a0 : ByteArray) (n : Nat) (w : World) (h1 : 1 ≤ n) (hn : n ≤ 7) (hs : a0.toList = nmL 1) :
    Calls Try.prog 97 #[.string a0, .int .i64 n] w (GetsGB w.heap.size w n (adjL n (symR (namR 1 n))) true) := by
  have hmf : ∀ (fn : Fn) (first cap : Array Value) (w : World), (Instr.makeFunc fn first cap).run Try.prog w = .ok (.func fn first cap) w := fun _ _ _ _ => rfl
  have d0 : decide ((n : Int) < 1) = false := by simp; omega
  have d1 : decide ((7 : Int) < n) = false := by simp; omega
  have e0 : (a0.toList == [112, 97, 116, 104]) = false := by rw [hs]; rfl
  have e1 : (a0.toList == [99, 121, 99, 108, 101]) = true := by rw [hs]; rfl
  have e2 : (a0.toList == [99, 111, 109, 112, 108, 101, 116, 101]) = false := by rw [hs]; rfl
  have e3 : (a0.toList == [115, 116, 97, 114]) = false := by rw [hs]; rfl
  have e4 : (a0.toList == [119, 104, 101, 101, 108]) = false := by rw [hs]; rfl
  have e5 : (a0.toList == [101, 109, 112, 116, 121]) = false := by rw [hs]; rfl
  clear hs
  obtain ⟨w1, hw1⟩ : ∃ w1, w1 = (w.alloc (.cells #[.int .i64 n] 3)).alloc (.cells #[.int .i64 0, .slice none 0 0] 44) := ⟨_, rfl⟩
  have BL1 := Lib.hid (show Blank (w.heap.size + 1) w1 by rw [hw1]; have := Blank.new (w.alloc (.cells #[.int .i64 n] 3)) 44; simpa using this)
  have BB1 := Lib.hid (show Below w.heap.size w w1 by rw [hw1]; exact ((Below.refl _ w).alloc (Nat.le_refl _) _).alloc (by simp) _)
  have C1 := Lib.hid (show w1.cell? ⟨w.heap.size, 0, none⟩ = some (.int .i64 n) by rw [hw1]; simp [go_sem])
  have hz1 : w1.heap.size = w.heap.size + 2 := by rw [hw1]; simp
  go_enter Try.func97, Try.ntmps97
  go_wp2_with fail
  rw [← hw1]
  clear hw1
  refine (graphWith_any 125 #[.pointer (some ⟨w.heap.size, 0, none⟩)] n (namR 1 n) _ h1 hn enters_nam1 (rule_nam1 n _ hn w.heap.size C1.out (by omega))).mono ?_
  rintro e w2 ⟨v2, rfl, ho, hb⟩
  have BL2 := BL1.out.keep (below_grown hb) (by simp)
  have BB2 := Lib.hid (BB1.out.trans (hb.mono BB1.out.size))
  obtain ⟨a2, cap2, rfl, -, -⟩ := ho.ints.form
  have HO := Lib.hid ho
  clear ho hb hmf
  obtain ⟨b0, b1, b2, b3, b4⟩ := BL2
  go_wp2
  refine bodyPost_ret (v := .tuple #[.agg #[.int .i64 n, .slice a2 _ cap2], .bool true]) (by simp [results, Try.results97, go_sem, b0, b1, b2, b3]; rfl) rfl ⟨_, rfl, ?_, ?_⟩
  · exact ((HO.out.setBelow (a := ⟨w.heap.size + 1, 0, none⟩) (by show w.heap.size + 1 < w1.heap.size; omega) _).setBelow (a := ⟨w.heap.size + 1, 1, none⟩) (by show w.heap.size + 1 < w1.heap.size; omega) _).mono BB1.out.size
  · exact (BB2.out.setCell (by simp) _).setCell (by simp) _

set_option maxHeartbeats 2000000 in
set_option maxRecDepth 100000 in
theorem implNamed2 (a0 : ByteArray) (n : Nat) (w : World) (h1 : 1 ≤ n) (hn : n ≤ 7) (hs : a0.toList = nmL 2) :
    Calls Try.prog 97 #[.string a0, .int .i64 n] w (GetsGB w.heap.size w n (adjL n (symR (namR 2 n))) true) := by
  have hmf : ∀ (fn : Fn) (first cap : Array Value) (w : World), (Instr.makeFunc fn first cap).run Try.prog w = .ok (.func fn first cap) w := fun _ _ _ _ => rfl
  have d0 : decide ((n : Int) < 1) = false := by simp; omega
  have d1 : decide ((7 : Int) < n) = false := by simp; omega
  have e0 : (a0.toList == [112, 97, 116, 104]) = false := by rw [hs]; rfl
  have e1 : (a0.toList == [99, 121, 99, 108, 101]) = false := by rw [hs]; rfl
  have e2 : (a0.toList == [99, 111, 109, 112, 108, 101, 116, 101]) = true := by rw [hs]; rfl
  have e3 : (a0.toList == [115, 116, 97, 114]) = false := by rw [hs]; rfl
  have e4 : (a0.toList == [119, 104, 101, 101, 108]) = false := by rw [hs]; rfl
  have e5 : (a0.toList == [101, 109, 112, 116, 121]) = false := by rw [hs]; rfl
  clear hs
  obtain ⟨w1, hw1⟩ : ∃ w1, w1 = (w.alloc (.cells #[.int .i64 n] 3)).alloc (.cells #[.int .i64 0, .slice none 0 0] 44) := ⟨_, rfl⟩
  have BL1 := Lib.hid (show Blank (w.heap.size + 1) w1 by rw [hw1]; have := Blank.new (w.alloc (.cells #[.int .i64 n] 3)) 44; simpa using this)
  have BB1 := Lib.hid (show Below w.heap.size w w1 by rw [hw1]; exact ((Below.refl _ w).alloc (Nat.le_refl _) _).alloc (by simp) _)
  have C1 := Lib.hid (show w1.cell? ⟨w.heap.size, 0, none⟩ = some (.int .i64 n) by rw [hw1]; simp [go_sem])
  have hz1 : w1.heap.size = w.heap.size + 2 := by rw [hw1]; simp
  go_enter Try.func97, Try.ntmps97
  go_wp2_with fail
  rw [← hw1]
  clear hw1
  refine (graphWith_any 126 #[] n (namR 2 n) _ h1 hn enters_nam2 (rule_nam2 n _ hn)).mono ?_
  rintro e w2 ⟨v2, rfl, ho, hb⟩
  have BL2 := BL1.out.keep (below_grown hb) (by simp)
  have BB2 := Lib.hid (BB1.out.trans (hb.mono BB1.out.size))
  obtain ⟨a2, cap2, rfl, -, -⟩ := ho.ints.form
  have HO := Lib.hid ho
  clear ho hb hmf
  obtain ⟨b0, b1, b2, b3, b4⟩ := BL2
  go_wp2
  refine bodyPost_ret (v := .tuple #[.agg #[.int .i64 n, .slice a2 _ cap2], .bool true]) (by simp [results, Try.results97, go_sem, b0, b1, b2, b3]; rfl) rfl ⟨_, rfl, ?_, ?_⟩
  · exact ((HO.out.setBelow (a := ⟨w.heap.size + 1, 0, none⟩) (by show w.heap.size + 1 < w1.heap.size; omega) _).setBelow (a := ⟨w.heap.size + 1, 1, none⟩) (by show w.heap.size + 1 < w1.heap.size; omega) _).mono BB1.out.size
  · exact (BB2.out.setCell (by simp) _).setCell (by simp) _

set_option maxHeartbeats 2000000 in
set_option maxRecDepth 100000 in
theorem implNamed3 (a0 : ByteArray) (n : Nat) (w : World) (h1 : 1 ≤ n) (hn : n ≤ 7) (hs : a0.toList = nmL 3) :
    Calls Try.prog 97 #[.string a0, .int .i64 n] w (GetsGB w.heap.size w n (adjL n (symR (namR 3 n))) true) := by
  have hmf : ∀ (fn : Fn) (first cap : Array Value) (w : World), (Instr.makeFunc fn first cap).run Try.prog w = .ok (.func fn first cap) w := fun _ _ _ _ => rfl
  have d0 : decide ((n : Int) < 1) = false := by simp; omega
  have d1 : decide ((7 : Int) < n) = false := by simp; omega
  have e0 : (a0.toList == [112, 97, 116, 104]) = false := by rw [hs]; rfl
  have e1 : (a0.toList == [99, 121, 99, 108, 101]) = false := by rw [hs]; rfl
  have e2 : (a0.toList == [99, 111, 109, 112, 108, 101, 116, 101]) = false := by rw [hs]; rfl
  have e3 : (a0.toList == [115, 116, 97, 114]) = true := by rw [hs]; rfl
  have e4 : (a0.toList == [119, 104, 101, 101, 108]) = false := by rw [hs]; rfl
  have e5 : (a0.toList == [101, 109, 112, 116, 121]) = false := by rw [hs]; rfl
  clear hs
  obtain ⟨w1, hw1⟩ : ∃ w1, w1 = (w.alloc (.cells #[.int .i64 n] 3)).alloc (.cells #[.int .i64 0, .slice none 0 0] 44) := ⟨_, rfl⟩
  have BL1 := Lib.hid (show Blank (w.heap.size + 1) w1 by rw [hw1]; have := Blank.new (w.alloc (.cells #[.int .i64 n] 3)) 44; simpa using this)
  have BB1 := Lib.hid (show Below w.heap.size w w1 by rw [hw1]; exact ((Below.refl _ w).alloc (Nat.le_refl _) _).alloc (by simp) _)
  have C1 := Lib.hid (show w1.cell? ⟨w.heap.size, 0, none⟩ = some (.int .i64 n) by rw [hw1]; simp [go_sem])
  have hz1 : w1.heap.size = w.heap.size + 2 := by rw [hw1]; simp
  go_enter Try.func97, Try.ntmps97
  go_wp2_with fail
  rw [← hw1]
  clear hw1
  refine (graphWith_any 127 #[] n (namR 3 n) _ h1 hn enters_nam3 (rule_nam3 n _ hn)).mono ?_
  rintro e w2 ⟨v2, rfl, ho, hb⟩
  have BL2 := BL1.out.keep (below_grown hb) (by simp)
  have BB2 := Lib.hid (BB1.out.trans (hb.mono BB1.out.size))
  obtain ⟨a2, cap2, rfl, -, -⟩ := ho.ints.form
  have HO := Lib.hid ho
  clear ho hb hmf
  obtain ⟨b0, b1, b2, b3, b4⟩ := BL2
  go_wp2
  refine bodyPost_ret (v := .tuple #[.agg #[.int .i64 n, .slice a2 _ cap2], .bool true]) (by simp [results, Try.results97, go_sem, b0, b1, b2, b3]; rfl) rfl ⟨_, rfl, ?_, ?_⟩
  · exact ((HO.out.setBelow (a := ⟨w.heap.size + 1, 0, none⟩) (by show w.heap.size + 1 < w1.heap.size; omega) _).setBelow (a := ⟨w.heap.size + 1, 1, none⟩) (by show w.heap.size + 1 < w1.heap.size; omega) _).mono BB1.out.size
  · exact (BB2.out.setCell (by simp) _).setCell (by simp) _

set_option maxHeartbeats 2000000 in
set_option maxRecDepth 100000 in
theorem implNamed4 (a0 : ByteArray) (n : Nat) (w : World) (h1 : 1 ≤ n) (hn : n ≤ 7) (hs : a0.toList = nmL 4) :
    Calls Try.prog 97 #[.string a0, .int .i64 n] w (GetsGB w.heap.size w n (adjL n (symR (namR 4 n))) true) := by
  have hmf : ∀ (fn : Fn) (first cap : Array Value) (w : World), (Instr.makeFunc fn first cap).run Try.prog w = .ok (.func fn first cap) w := fun _ _ _ _ => rfl
  have d0 : decide ((n : Int) < 1) = false := by simp; omega
  have d1 : decide ((7 : Int) < n) = false := by simp; omega
  have e0 : (a0.toList == [112, 97, 116, 104]) = false := by rw [hs]; rfl
  have e1 : (a0.toList == [99, 121, 99, 108, 101]) = false := by rw [hs]; rfl
  have e2 : (a0.toList == [99, 111, 109, 112, 108, 101, 116, 101]) = false := by rw [hs]; rfl
  have e3 : (a0.toList == [115, 116, 97, 114]) = false := by rw [hs]; rfl
  have e4 : (a0.toList == [119, 104, 101, 101, 108]) = true := by rw [hs]; rfl
  have e5 : (a0.toList == [101, 109, 112, 116, 121]) = false := by rw [hs]; rfl
  clear hs
  obtain ⟨w1, hw1⟩ : ∃ w1, w1 = (w.alloc (.cells #[.int .i64 n] 3)).alloc (.cells #[.int .i64 0, .slice none 0 0] 44) := ⟨_, rfl⟩
  have BL1 := Lib.hid (show Blank (w.heap.size + 1) w1 by rw [hw1]; have := Blank.new (w.alloc (.cells #[.int .i64 n] 3)) 44; simpa using this)
  have BB1 := Lib.hid (show Below w.heap.size w w1 by rw [hw1]; exact ((Below.refl _ w).alloc (Nat.le_refl _) _).alloc (by simp) _)
  have C1 := Lib.hid (show w1.cell? ⟨w.heap.size, 0, none⟩ = some (.int .i64 n) by rw [hw1]; simp [go_sem])
  have hz1 : w1.heap.size = w.heap.size + 2 := by rw [hw1]; simp
  go_enter Try.func97, Try.ntmps97
  go_wp2_with fail
  rw [← hw1]
  clear hw1
  refine (graphWith_any 128 #[.pointer (some ⟨w.heap.size, 0, none⟩)] n (namR 4 n) _ h1 hn enters_nam4 (rule_nam4 n _ hn w.heap.size C1.out (by omega))).mono ?_
  rintro e w2 ⟨v2, rfl, ho, hb⟩
  have BL2 := BL1.out.keep (below_grown hb) (by simp)
  have BB2 := Lib.hid (BB1.out.trans (hb.mono BB1.out.size))
  obtain ⟨a2, cap2, rfl, -, -⟩ := ho.ints.form
  have HO := Lib.hid ho
  clear ho hb hmf
  obtain ⟨b0, b1, b2, b3, b4⟩ := BL2
  go_wp2
  refine bodyPost_ret (v := .tuple #[.agg #[.int .i64 n, .slice a2 _ cap2], .bool true]) (by simp [results, Try.results97, go_sem, b0, b1, b2, b3]; rfl) rfl ⟨_, rfl, ?_, ?_⟩
  · exact ((HO.out.setBelow (a := ⟨w.heap.size + 1, 0, none⟩) (by show w.heap.size + 1 < w1.heap.size; omega) _).setBelow (a := ⟨w.heap.size + 1, 1, none⟩) (by show w.heap.size + 1 < w1.heap.size; omega) _).mono BB1.out.size
  · exact (BB2.out.setCell (by simp) _).setCell (by simp) _

set_option maxHeartbeats 2000000 in
set_option maxRecDepth 100000 in
theorem implNamed5 (a0 : ByteArray) (n : Nat) (w : World) (h1 : 1 ≤ n) (hn : n ≤ 7) (hs : a0.toList = nmL 5) :
    Calls Try.prog 97 #[.string a0, .int .i64 n] w (GetsGB w.heap.size w n (adjL n (symR (namR 5 n))) true) := by
  have hmf : ∀ (fn : Fn) (first cap : Array Value) (w : World), (Instr.makeFunc fn first cap).run Try.prog w = .ok (.func fn first cap) w := fun _ _ _ _ => rfl
  have d0 : decide ((n : Int) < 1) = false := by simp; omega
  have d1 : decide ((7 : Int) < n) = false := by simp; omega
  have e0 : (a0.toList == [112, 97, 116, 104]) = false := by rw [hs]; rfl
  have e1 : (a0.toList == [99, 121, 99, 108, 101]) = false := by rw [hs]; rfl
  have e2 : (a0.toList == [99, 111, 109, 112, 108, 101, 116, 101]) = false := by rw [hs]; rfl
  have e3 : (a0.toList == [115, 116, 97, 114]) = false := by rw [hs]; rfl
  have e4 : (a0.toList == [119, 104, 101, 101, 108]) = false := by rw [hs]; rfl
  have e5 : (a0.toList == [101, 109, 112, 116, 121]) = true := by rw [hs]; rfl
  clear hs
  obtain ⟨w1, hw1⟩ : ∃ w1, w1 = (w.alloc (.cells #[.int .i64 n] 3)).alloc (.cells #[.int .i64 0, .slice none 0 0] 44) := ⟨_, rfl⟩
  have BL1 := Lib.hid (show Blank (w.heap.size + 1) w1 by rw [hw1]; have := Blank.new (w.alloc (.cells #[.int .i64 n] 3)) 44; simpa using this)
  have BB1 := Lib.hid (show Below w.heap.size w w1 by rw [hw1]; exact ((Below.refl _ w).alloc (Nat.le_refl _) _).alloc (by simp) _)
  have C1 := Lib.hid (show w1.cell? ⟨w.heap.size, 0, none⟩ = some (.int .i64 n) by rw [hw1]; simp [go_sem])
  have hz1 : w1.heap.size = w.heap.size + 2 := by rw [hw1]; simp
  go_enter Try.func97, Try.ntmps97
  go_wp2_with fail
  rw [← hw1]
  clear hw1
  refine (graphWith_any 129 #[] n (namR 5 n) _ h1 hn enters_nam5 (rule_nam5 n _ hn)).mono ?_
  rintro e w2 ⟨v2, rfl, ho, hb⟩
  have BL2 := BL1.out.keep (below_grown hb) (by simp)
  have BB2 := Lib.hid (BB1.out.trans (hb.mono BB1.out.size))
  obtain ⟨a2, cap2, rfl, -, -⟩ := ho.ints.form
  have HO := Lib.hid ho
  clear ho hb hmf
  obtain ⟨b0, b1, b2, b3, b4⟩ := BL2
  go_wp2
  refine bodyPost_ret (v := .tuple #[.agg #[.int .i64 n, .slice a2 _ cap2], .bool true]) (by simp [results, Try.results97, go_sem, b0, b1, b2, b3]; rfl) rfl ⟨_, rfl, ?_, ?_⟩
  · exact ((HO.out.setBelow (a := ⟨w.heap.size + 1, 0, none⟩) (by show w.heap.size + 1 < w1.heap.size; omega) _).setBelow (a := ⟨w.heap.size + 1, 1, none⟩) (by show w.heap.size + 1 < w1.heap.size; omega) _).mono BB1.out.size
  · exact (BB2.out.setCell (by simp) _).setCell (by simp) _

theorem namK_cases (s : List UInt8) : namK s = none ∨ ∃ k, k < 6 ∧ namK s = some k ∧ s = nmL k := by
  unfold namK
  by_cases h0 : s == nmL 0
  · rw [if_pos h0]; exact .inr ⟨0, by omega, rfl, by simpa using h0⟩
  rw [if_neg h0]
  by_cases h1 : s == nmL 1
  · rw [if_pos h1]; exact .inr ⟨1, by omega, rfl, by simpa using h1⟩
  rw [if_neg h1]
  by_cases h2 : s == nmL 2
  · rw [if_pos h2]; exact .inr ⟨2, by omega, rfl, by simpa using h2⟩
  rw [if_neg h2]
  by_cases h3 : s == nmL 3
  · rw [if_pos h3]; exact .inr ⟨3, by omega, rfl, by simpa using h3⟩
  rw [if_neg h3]
  by_cases h4 : s == nmL 4
  · rw [if_pos h4]; exact .inr ⟨4, by omega, rfl, by simpa using h4⟩
  rw [if_neg h4]
  by_cases h5 : s == nmL 5
  · rw [if_pos h5]; exact .inr ⟨5, by omega, rfl, by simpa using h5⟩
  rw [if_neg h5]
  exact .inl rfl

theorem namK_none {s : List UInt8} (h : namK s = none) : (s == nmL 0) = false ∧ (s == nmL 1) = false ∧ (s == nmL 2) = false ∧ (s == nmL 3) = false ∧ (s == nmL 4) = false ∧ (s == nmL 5) = false := by
  unfold namK at h
  by_cases h0 : s == nmL 0
  · rw [if_pos h0] at h; cases h
  rw [if_neg h0] at h
  by_cases h1 : s == nmL 1
  · rw [if_pos h1] at h; cases h
  rw [if_neg h1] at h
  by_cases h2 : s == nmL 2
  · rw [if_pos h2] at h; cases h
  rw [if_neg h2] at h
  by_cases h3 : s == nmL 3
  · rw [if_pos h3] at h; cases h
  rw [if_neg h3] at h
  by_cases h4 : s == nmL 4
  · rw [if_pos h4] at h; cases h
  rw [if_neg h4] at h
  by_cases h5 : s == nmL 5
  · rw [if_pos h5] at h; cases h
  rw [if_neg h5] at h
  simp_all

set_option maxHeartbeats 2000000 in
set_option maxRecDepth 100000 in
theorem implNamed_no (a0 : ByteArray) (x : Int) (w : World) (hno : ¬ NamOk a0.toList x) :
    Calls Try.prog 97 #[.string a0, .int .i64 x] w (GetsGB w.heap.size w 0 [] false) := by
  have BL := (Blank.new (w.alloc (.cells #[.int .i64 x] 3)) 44)
  have BB := Lib.hid (((Below.refl _ w).alloc (Nat.le_refl _) (.cells #[.int .i64 x] 3)).alloc (by simp) (.cells #[.int .i64 0, .slice none 0 0] 44))
  obtain ⟨b0, b1, b2, b3, b4⟩ := BL
  simp only [World.size_alloc] at b0 b1 b2 b3 b4
  by_cases h1 : x < 1
  · have d0 : decide (x < 1) = true := by simp [h1]
    clear hno
    go_enter Try.func97, Try.ntmps97
    go_wp2
    refine bodyPost_ret (v := .tuple #[.agg #[.int .i64 0, .slice none 0 0], .bool false]) (by simp [results, Try.results97, go_sem, b0, b1, b2, b3]) rfl ⟨_, rfl, ⟨inI64_nil, World.ownsRow_nil _ _ _ _⟩, ?_⟩
    exact BB.out
  · have d0 : decide (x < 1) = false := by simp; omega
    by_cases h7 : 7 < x
    · have d1 : decide (7 < x) = true := by simp [h7]
      have d2 : decide (x > 7) = true := by simp; exact h7
      clear hno
      go_enter Try.func97, Try.ntmps97
      go_wp2
      refine bodyPost_ret (v := .tuple #[.agg #[.int .i64 0, .slice none 0 0], .bool false]) (by simp [results, Try.results97, go_sem, b0, b1, b2, b3]) rfl ⟨_, rfl, ⟨inI64_nil, World.ownsRow_nil _ _ _ _⟩, ?_⟩
      exact BB.out
    · have d1 : decide (7 < x) = false := by simp; omega
      have d2 : decide (x > 7) = false := by simp; omega
      have hk : namK a0.toList = none := by
        rcases namK_cases a0.toList with h | ⟨k, -, h, -⟩
        · exact h
        · exact absurd ⟨by rw [h]; rfl, by omega, by omega⟩ hno
      obtain ⟨e0, e1, e2, e3, e4, e5⟩ := namK_none hk
      have e0' : (a0.toList == [112, 97, 116, 104]) = false := e0
      have e1' : (a0.toList == [99, 121, 99, 108, 101]) = false := e1
      have e2' : (a0.toList == [99, 111, 109, 112, 108, 101, 116, 101]) = false := e2
      have e3' : (a0.toList == [115, 116, 97, 114]) = false := e3
      have e4' : (a0.toList == [119, 104, 101, 101, 108]) = false := e4
      have e5' : (a0.toList == [101, 109, 112, 116, 121]) = false := e5
      clear hno hk e0 e1 e2 e3 e4 e5
      go_enter Try.func97, Try.ntmps97
      go_wp2
      refine bodyPost_ret (v := .tuple #[.agg #[.int .i64 0, .slice none 0 0], .bool false]) (by simp [results, Try.results97, go_sem, b0, b1, b2, b3]) rfl ⟨_, rfl, ⟨inI64_nil, World.ownsRow_nil _ _ _ _⟩, ?_⟩
      exact BB.out

theorem implNamed (a0 : ByteArray) (x : Int) (w : World) :
    Calls Try.prog 97 #[.string a0, .int .i64 x] w (GetsGB w.heap.size w (namN a0.toList x) (namL a0.toList x) (decide (NamOk a0.toList x))) := by
  by_cases hok : NamOk a0.toList x
  · rw [show namN a0.toList x = x by unfold namN; rw [if_pos hok], show namL a0.toList x = adjL x.toNat (symR (namR ((namK a0.toList).getD 0) x.toNat)) by unfold namL; rw [if_pos hok], decide_eq_true hok]
    obtain ⟨n, rfl⟩ : ∃ n : Nat, x = n := ⟨x.toNat, by have := hok.2.1; omega⟩
    have h1 : 1 ≤ n := by have := hok.2.1; omega
    have h7 : n ≤ 7 := by have := hok.2.2; omega
    rw [Int.toNat_natCast]
    rcases namK_cases a0.toList with h | ⟨k, hk, h, hs⟩
    · have := hok.1; rw [h] at this; cases this
    · rw [h]
      show Calls _ _ _ _ (GetsGB w.heap.size w n (adjL n (symR (namR k n))) true)
      match k, hk, hs with
      | 0, _, hs => exact implNamed0 a0 n w h1 h7 hs
      | 1, _, hs => exact implNamed1 a0 n w h1 h7 hs
      | 2, _, hs => exact implNamed2 a0 n w h1 h7 hs
      | 3, _, hs => exact implNamed3 a0 n w h1 h7 hs
      | 4, _, hs => exact implNamed4 a0 n w h1 h7 hs
      | 5, _, hs => exact implNamed5 a0 n w h1 h7 hs
  · rw [show namN a0.toList x = 0 by unfold namN; rw [if_neg hok], show namL a0.toList x = [] by unfold namL; rw [if_neg hok], decide_eq_false hok]
    exact implNamed_no a0 x w hok

end Go.Proofs.Ytgfndgjabhabjaa
