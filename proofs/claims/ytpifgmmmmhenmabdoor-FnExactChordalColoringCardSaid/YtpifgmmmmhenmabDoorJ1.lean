/- The first list of vertices that passes a test, in the order of the lists. -/
import Derived.Test.YtpifgmmmmhenmabDoorP1
import Derived.Test.YtpifgmmmmhenmabDoorM1
namespace Go.Proofs.YtpifgmmmmhenmabDoor
set_option linter.unusedVariables false
set_option linter.unusedSimpArgs false
open Go.RowKit

/-- The first answer among those of 0 to k - 1. -/
def firstS (f : Nat → Option (List Int)) : Nat → Option (List Int)
  | 0 => none
  | k + 1 => match firstS f k with
    | some y => some y
    | none => f k

theorem firstS_none {f : Nat → Option (List Int)} {k : Nat} : firstS f k = none ↔ ∀ u, u < k → f u = none := by
  induction k with
  | zero => simp [firstS]
  | succ k ih =>
    unfold firstS
    cases h : firstS f k with
    | some y =>
      simp only [reduceCtorEq, false_iff]
      intro hn
      have := ih.2 fun u hu => hn u (by omega)
      rw [this] at h
      cases h
    | none =>
      refine ⟨fun hk u hu => ?_, fun hn => hn k (by omega)⟩
      rcases Nat.lt_or_ge u k with h1 | h1
      · exact ih.1 h u h1
      · obtain rfl : u = k := by omega
        exact hk

theorem firstS_hit {f : Nat → Option (List Int)} {v m : Nat} (hv : v < m) (h : ∀ u, u < v → f u = none) {y : List Int} (hy : f v = some y) : firstS f m = some y := by
  have h0 := firstS_none.2 h
  have : ∀ d, firstS f (v + 1 + d) = some y := fun d => by
    induction d with
    | zero => simp [firstS, h0, hy]
    | succ d ih => rw [← Nat.add_assoc]; unfold firstS; rw [ih]
  obtain ⟨d, rfl⟩ : ∃ d, m = v + 1 + d := ⟨m - (v + 1), by omega⟩
  exact this d

theorem firstS_congr {f g : Nat → Option (List Int)} {k : Nat} (h : ∀ u, u < k → f u = g u) : firstS f k = firstS g k := by
  induction k with
  | zero => rfl
  | succ k ih =>
    unfold firstS
    rw [ih fun u hu => h u (by omega), h k (by omega)]

theorem firstS_succ (f : Nat → Option (List Int)) (k : Nat) : firstS f (k + 1) = match firstS f k with
    | some y => some y
    | none => f k := rfl

theorem firstS_some {f : Nat → Option (List Int)} {k : Nat} {y : List Int} (h : firstS f k = some y) : ∃ v, v < k ∧ f v = some y := by
  induction k with
  | zero => cases h
  | succ k ih =>
    rw [firstS_succ] at h
    cases hk : firstS f k with
    | some z =>
      rw [hk] at h
      obtain ⟨v, hv, he⟩ := ih (hk.trans h)
      exact ⟨v, by omega, he⟩
    | none =>
      rw [hk] at h
      exact ⟨k, by omega, h⟩

theorem firstS_add (f : Nat → Option (List Int)) (a b : Nat) : firstS f (a + b) = match firstS f a with
    | some y => some y
    | none => firstS (fun c => f (a + c)) b := by
  induction b with
  | zero => cases h : firstS f a <;> simp [firstS, h]
  | succ b ih =>
    rw [← Nat.add_assoc, firstS_succ, ih]
    cases h : firstS f a with
    | some y => rfl
    | none => rfl

theorem firstS_mul (f : Nat → Option (List Int)) (a b : Nat) : firstS f (a * b) = firstS (fun v => firstS (fun c => f (v * b + c)) b) a := by
  induction a with
  | zero => simp [firstS]
  | succ a ih =>
    rw [Nat.succ_mul, firstS_add, ih]
    conv => rhs; unfold firstS

/-- The first list of k vertices more that passes T. -/
def allS (m : Nat) (T : List Int → Bool) : Nat → List Int → Option (List Int)
  | 0, l => if T l then some l else none
  | k + 1, l => firstS (fun v => allS m T k (l ++ [(v : Int)])) m

/-- The same where each vertex must fit what stands before it. -/
def srchS (m : Nat) (fit : List Int → Nat → Bool) (T : List Int → Bool) : Nat → List Int → Option (List Int)
  | 0, l => if T l then some l else none
  | k + 1, l => firstS (fun v => if fit l v then srchS m fit T k (l ++ [(v : Int)]) else none) m

theorem allS_none (m : Nat) (T : List Int → Bool) : ∀ (k : Nat) (l : List Int), (∀ s : List Int, s.length = k → T (l ++ s) = false) → allS m T k l = none
  | 0, l, h => by
    have := h [] rfl
    rw [List.append_nil] at this
    simp [allS, this]
  | k + 1, l, h => by
    unfold allS
    exact firstS_none.2 fun u _ => allS_none m T k _ fun s hs => by
      rw [List.append_assoc]
      exact h _ (by simp [hs])

/-- A search that leaves out only what no list with T begins with finds the same. -/
theorem srch_all (m : Nat) (fit : List Int → Nat → Bool) (T T' : List Int → Bool) (P : List Int → Nat → Prop)
    (h0 : ∀ l, P l 0 → T' l = T l) (hy : ∀ l k v, P l (k + 1) → v < m → fit l v = true → P (l ++ [(v : Int)]) k)
    (hn : ∀ l k v, P l (k + 1) → v < m → fit l v = false → ∀ s : List Int, s.length = k → T (l ++ [(v : Int)] ++ s) = false) :
    ∀ (k : Nat) (l : List Int), P l k → srchS m fit T' k l = allS m T k l
  | 0, l, h => by unfold srchS allS; rw [h0 l h]
  | k + 1, l, h => by
    unfold srchS allS
    refine firstS_congr fun v hv => ?_
    cases hf : fit l v with
    | true => rw [if_pos rfl]; exact srch_all m fit T T' P h0 hy hn k _ (hy l k v h hv hf)
    | false => rw [if_neg (by decide), allS_none m T k _ (hn l k v h hv hf)]

/-- What is found begins with what was there, is as long as was asked, and has vertices only. -/
theorem srch_shape (m : Nat) (fit : List Int → Nat → Bool) (T : List Int → Bool) : ∀ (k : Nat) (l y : List Int), srchS m fit T k l = some y → ∃ s : List Int, y = l ++ s ∧ s.length = k ∧ ∀ x ∈ s, 0 ≤ x ∧ x < m
  | 0, l, y, h => by
    unfold srchS at h
    split at h
    · obtain rfl := Option.some.inj h
      exact ⟨[], by simp, rfl, by simp⟩
    · cases h
  | k + 1, l, y, h => by
    unfold srchS at h
    obtain ⟨v, hv, hs⟩ := firstS_some h
    split at hs
    · obtain ⟨s, rfl, hl, hx⟩ := srch_shape m fit T k _ y hs
      refine ⟨(v : Int) :: s, by simp, by simp [hl], fun x hx' => ?_⟩
      rcases List.mem_cons.1 hx' with rfl | h'
      · omega
      · exact hx x h'
    · cases hs

theorem digits (m a b c d : Nat) (hm : m ≤ 7) (ha : a < m) (hb : b < m) (hc : c < m) (hd : d < m) :
    (a * (m * (m * m)) + (b * (m * m) + (c * m + d))) / (m * m * m) = a ∧ (a * (m * (m * m)) + (b * (m * m) + (c * m + d))) / (m * m) % m = b ∧
      (a * (m * (m * m)) + (b * (m * m) + (c * m + d))) / m % m = c ∧ (a * (m * (m * m)) + (b * (m * m) + (c * m + d))) % m = d := by
  have : m = 1 ∨ m = 2 ∨ m = 3 ∨ m = 4 ∨ m = 5 ∨ m = 6 ∨ m = 7 := by omega
  rcases this with rfl | rfl | rfl | rfl | rfl | rfl | rfl <;> refine ⟨?_, ?_, ?_, ?_⟩ <;> omega

/-- The list of the four digits of a number. -/
def four (m c : Nat) : List Int := [((c / (m * m * m) : Nat) : Int), ((c / (m * m) % m : Nat) : Int), ((c / m % m : Nat) : Int), ((c % m : Nat) : Int)]

theorem all_four (m : Nat) (hm : m ≤ 7) (T : List Int → Bool) : allS m T 4 [] = firstS (fun c => if T (four m c) then some (four m c) else none) (m * m * m * m) := by
  have e1 : m * m * m * m = m * (m * (m * m)) := by rw [Nat.mul_assoc, Nat.mul_assoc]
  rw [e1, firstS_mul]
  refine firstS_congr fun a ha => ?_
  rw [firstS_mul]
  refine firstS_congr fun b hb => ?_
  rw [firstS_mul]
  refine firstS_congr fun c hc => ?_
  refine firstS_congr fun d hd => ?_
  obtain ⟨d1, d2, d3, d4⟩ := digits m a b c d hm ha hb hc hd
  show allS m T 0 _ = _
  unfold allS four
  rw [d1, d2, d3, d4]
  rfl

end Go.Proofs.YtpifgmmmmhenmabDoor
