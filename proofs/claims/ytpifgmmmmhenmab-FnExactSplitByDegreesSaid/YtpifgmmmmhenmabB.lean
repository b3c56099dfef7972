/- Sets of vertices as numbers, what lies around them, and the parts that hang together: plain facts. -/
import Derived.Test.YtpifgmmmmhenmabH1
import Derived.Test.YtpifgmmmmhenmabV1
namespace Go.Proofs.Ytpifgmmmmhenmab
set_option linter.unusedVariables false
set_option linter.unusedSimpArgs false
open Go.RowKit

theorem bits_nat (a b : Nat) (ha : a < 128) (hb : b < 128) : bits .and .i64 (a : Int) (b : Int) = ((a &&& b : Nat) : Int) ∧ bits .or .i64 (a : Int) (b : Int) = ((a ||| b : Nat) : Int) := by
  have : ∀ (a b : Fin 128), bits .and .i64 ((a.val : Nat) : Int) ((b.val : Nat) : Int) = ((a.val &&& b.val : Nat) : Int) ∧ bits .or .i64 ((a.val : Nat) : Int) ((b.val : Nat) : Int) = ((a.val ||| b.val : Nat) : Int) := by decide +kernel
  exact this ⟨a, ha⟩ ⟨b, hb⟩

theorem bitAt_nat (a j : Nat) : bitAt (a : Int) j = 1 ↔ a.testBit j = true := by
  unfold bitAt
  rw [Nat.testBit_eq_decide_div_mod_eq, decide_eq_true_iff]
  have : (a : Int) / 2 ^ j % 2 = ((a / 2 ^ j % 2 : Nat) : Int) := by push_cast; rfl
  rw [this]
  omega

/-- The members of a set, in their order. -/
def memN (X : Nat) : List Nat := (List.range 7).filter fun v => X.testBit v

theorem memU_nat (X : Nat) : memU (X : Int) 7 = memN X := by
  unfold memU memN
  refine List.filter_congr fun v _ => ?_
  have := bitAt_nat X v
  cases h : X.testBit v <;> simp_all

/-- All that lies in X or in a row of one of vs. -/
def foldN (R : Nat → Nat) (X : Nat) (vs : List Nat) : Nat := vs.foldl (fun a v => a ||| R v) X

theorem foldN_snoc (R : Nat → Nat) (X : Nat) (vs : List Nat) (v : Nat) : foldN R X (vs ++ [v]) = foldN R X vs ||| R v := by simp [foldN]

theorem foldN_bit (R : Nat → Nat) (X : Nat) (vs : List Nat) (i : Nat) : (foldN R X vs).testBit i = (X.testBit i || vs.any fun v => (R v).testBit i) := by
  induction vs generalizing X with
  | nil => simp [foldN]
  | cons v t ih =>
    show (foldN R (X ||| R v) t).testBit i = _
    rw [ih, Nat.testBit_or]
    simp [Bool.or_assoc]

theorem foldN_lt (R : Nat → Nat) (X : Nat) (vs : List Nat) (n : Nat) (hX : X < 2 ^ n) (hR : ∀ v ∈ vs, R v < 2 ^ n) : foldN R X vs < 2 ^ n := by
  induction vs generalizing X with
  | nil => exact hX
  | cons v t ih =>
    show foldN R (X ||| R v) t < 2 ^ n
    exact ih _ (Nat.or_lt_two_pow hX (hR v (by simp))) fun w hw => hR w (by simp [hw])

def aroundN (R : Nat → Nat) (X : Nat) : Nat := foldN R X (memN X)

theorem aroundN_bit (R : Nat → Nat) (X i : Nat) : (aroundN R X).testBit i = true ↔ X.testBit i = true ∨ ∃ v, v < 7 ∧ X.testBit v = true ∧ (R v).testBit i = true := by
  unfold aroundN
  rw [foldN_bit]
  simp [memN, List.any_filter]

/-- One set within another. -/
def Sub (X Y : Nat) : Prop := ∀ i, X.testBit i = true → Y.testBit i = true

theorem eq_of_bits {X Y : Nat} (h : ∀ i, X.testBit i = true ↔ Y.testBit i = true) : X = Y := by
  refine Nat.eq_of_testBit_eq fun i => ?_
  have := h i
  cases h1 : X.testBit i <;> cases h2 : Y.testBit i <;> simp_all

theorem sub_and {X Y : Nat} (h : Sub X Y) : X &&& Y = X := eq_of_bits fun i => by
  rw [Nat.testBit_and]
  have := h i
  cases h1 : X.testBit i <;> simp_all

theorem and_sub {X Y : Nat} (h : X &&& Y = X) : Sub X Y := fun i hi => by
  rw [← h, Nat.testBit_and] at hi
  simp at hi
  exact hi.2

def stepN (R : Nat → Nat) (S X : Nat) : Nat := aroundN R X &&& S

theorem stepN_bit (R : Nat → Nat) (S X i : Nat) : (stepN R S X).testBit i = true ↔ (aroundN R X).testBit i = true ∧ S.testBit i = true := by
  unfold stepN
  rw [Nat.testBit_and]
  simp

theorem around_mono {R : Nat → Nat} {X Y : Nat} (h : Sub X Y) : Sub (aroundN R X) (aroundN R Y) := fun i hi => by
  rw [aroundN_bit] at hi ⊢
  rcases hi with hi | ⟨v, h7, hv, hr⟩
  · exact .inl (h i hi)
  · exact .inr ⟨v, h7, h v hv, hr⟩

theorem step_sub (R : Nat → Nat) (S X : Nat) : Sub (stepN R S X) S := fun i hi => ((stepN_bit R S X i).1 hi).2

theorem step_mono {R : Nat → Nat} {S X Y : Nat} (h : Sub X Y) : Sub (stepN R S X) (stepN R S Y) := fun i hi => by
  rw [stepN_bit] at hi ⊢
  exact ⟨around_mono h i hi.1, hi.2⟩

theorem step_ext {R : Nat → Nat} {S X : Nat} (h : Sub X S) : Sub X (stepN R S X) := fun i hi => by
  rw [stepN_bit, aroundN_bit]
  exact ⟨.inl hi, h i hi⟩

/-- k steps from X on. -/
def itN (R : Nat → Nat) (S X : Nat) : Nat → Nat
  | 0 => X
  | k + 1 => stepN R S (itN R S X k)

theorem it_sub {R : Nat → Nat} {S X : Nat} (h : Sub X S) (k : Nat) : Sub (itN R S X k) S := by
  cases k with
  | zero => exact h
  | succ k => exact step_sub R S _

theorem it_ext {R : Nat → Nat} {S X : Nat} (h : Sub X S) (k : Nat) : Sub (itN R S X k) (itN R S X (k + 1)) := step_ext (it_sub h k)

theorem it_from {R : Nat → Nat} {S X : Nat} (h : Sub X S) (k : Nat) : Sub X (itN R S X k) := by
  induction k with
  | zero => exact fun i hi => hi
  | succ k ih => exact fun i hi => it_ext h k i (ih i hi)

/-- Within a part of S that is closed in S, steps are those of S. -/
theorem step_local {R : Nat → Nat} {S L X : Nat} (hX : Sub X L) (hL : Sub L S) (hc : stepN R S L = L) : stepN R L X = stepN R S X := eq_of_bits fun i => by
  rw [stepN_bit, stepN_bit]
  refine ⟨fun h => ⟨h.1, hL i h.2⟩, fun h => ⟨h.1, ?_⟩⟩
  have := step_mono hX i ((stepN_bit R S X i).2 h)
  rwa [hc] at this

theorem it_local {R : Nat → Nat} {S L X : Nat} (hX : Sub X L) (hL : Sub L S) (hc : stepN R S L = L) (k : Nat) : itN R L X k = itN R S X k := by
  induction k with
  | zero => rfl
  | succ k ih =>
    show stepN R L (itN R L X k) = stepN R S (itN R S X k)
    rw [← ih]
    exact step_local (it_sub hX k) hL hc

theorem it_fix {R : Nat → Nat} {S X k : Nat} (h : stepN R S (itN R S X k) = itN R S X k) (m : Nat) : itN R S X (k + m) = itN R S X k := by
  induction m with
  | zero => rfl
  | succ m ih =>
    show stepN R S (itN R S X (k + m)) = _
    rw [ih, h]

def popN (X : Nat) : Nat := (memN X).length

theorem pop_lt {X Y : Nat} (hX : X < 128) (hY : Y < 128) (h : Sub X Y) (hne : X ≠ Y) : popN X < popN Y := by
  have : ∀ (a b : Fin 128), a.val &&& b.val = a.val → a.val ≠ b.val → popN a.val < popN b.val := by decide +kernel
  exact this ⟨X, hX⟩ ⟨Y, hY⟩ (sub_and h) hne

theorem pop_le {Y n : Nat} (hn : n ≤ 7) (h : Y < 2 ^ n) : popN Y ≤ n := by
  have h7 : Y < 128 := Nat.lt_of_lt_of_le h (by have := Nat.pow_le_pow_right (show 0 < 2 by omega) hn; simpa using this)
  have : ∀ (n : Fin 8) (b : Fin 128), b.val < 2 ^ n.val → popN b.val ≤ n.val := by decide +kernel
  exact this ⟨n, by omega⟩ ⟨Y, h7⟩ h

theorem sub_le {X Y : Nat} (h : Sub X Y) : X ≤ Y := by
  rw [← sub_and h]
  exact Nat.and_le_right

theorem sub_minus {P L : Nat} (hL : L < 128) (h : Sub P L) : (L - P) = L ^^^ P := by
  have hP : P < 128 := Nat.lt_of_le_of_lt (sub_le h) hL
  have : ∀ (a b : Fin 128), b.val &&& a.val = b.val → a.val - b.val = a.val ^^^ b.val := by decide +kernel
  exact this ⟨L, hL⟩ ⟨P, hP⟩ (sub_and h)

theorem minus_bit {P L : Nat} (hL : L < 128) (h : Sub P L) (i : Nat) : (L - P).testBit i = true ↔ L.testBit i = true ∧ P.testBit i = false := by
  rw [sub_minus hL h, Nat.testBit_xor]
  have := h i
  cases h1 : L.testBit i <;> cases h2 : P.testBit i <;> simp_all

theorem andNot_nat {P L : Nat} (hL : L < 128) (h : Sub P L) : bits .andNot .i64 (L : Int) (P : Int) = ((L - P : Nat) : Int) := by
  have hP : P < 128 := Nat.lt_of_le_of_lt (sub_le h) hL
  have : ∀ (a b : Fin 128), b.val &&& a.val = b.val → bits .andNot .i64 ((a.val : Nat) : Int) ((b.val : Nat) : Int) = ((a.val - b.val : Nat) : Int) := by decide +kernel
  exact this ⟨L, hL⟩ ⟨P, hP⟩ (sub_and h)

/-- What is left of a closed set when a closed part of it is taken away is closed. -/
theorem closed_minus {R : Nat → Nat} {S L P : Nat} (hS : S < 128) (hL : Sub L S) (hP : Sub P L) (cL : stepN R S L = L) (cP : stepN R S P = P)
    (hsym : ∀ i j, S.testBit i = true → S.testBit j = true → (R i).testBit j = (R j).testBit i) : stepN R S (L - P) = L - P := by
  have hL7 : L < 128 := Nat.lt_of_le_of_lt (sub_le hL) hS
  have hD : Sub (L - P) L := fun i hi => ((minus_bit hL7 hP i).1 hi).1
  refine eq_of_bits fun i => ⟨fun h => ?_, fun h => step_ext (fun j hj => hL j (hD j hj)) i h⟩
  have h1 : L.testBit i = true := by
    have := step_mono (S := S) (R := R) hD i h
    rwa [cL] at this
  rw [minus_bit hL7 hP]
  refine ⟨h1, ?_⟩
  rw [stepN_bit, aroundN_bit] at h
  rcases h.1 with h2 | ⟨v, v7, hv, hr⟩
  · exact ((minus_bit hL7 hP i).1 h2).2
  · have hvL := (minus_bit hL7 hP v).1 hv
    cases hPi : P.testBit i with
    | false => rfl
    | true =>
      exfalso
      have i7 : i < 7 := by
        rcases Nat.lt_or_ge i 7 with h' | h'
        · exact h'
        · have : P < 2 ^ i := Nat.lt_of_lt_of_le (Nat.lt_of_le_of_lt (sub_le hP) hL7) (Nat.pow_le_pow_right (show 0 < 2 by omega) h')
          rw [Nat.testBit_lt_two_pow this] at hPi
          cases hPi
      have hvP : P.testBit v = true := by
        rw [← cP, stepN_bit, aroundN_bit]
        refine ⟨.inr ⟨i, i7, hPi, ?_⟩, hL v hvL.1⟩
        rw [hsym i v (hL i h1) (hL v hvL.1)]
        exact hr
      rw [hvP] at hvL
      exact absurd hvL.2 (by decide)

/-- The least member. -/
def lowN (L : Nat) : Nat := (memN L).headD 0

theorem low_facts (L : Nat) (h0 : 0 < L) (h7 : L < 128) : L.testBit (lowN L) = true ∧ lowN L < 7 ∧ 0 < (memN L).length ∧ bits .and .i64 (L : Int) (-(L : Int)) = ((2 ^ lowN L : Nat) : Int) ∧ 2 ^ lowN L &&& L = 2 ^ lowN L ∧ 2 ^ lowN L < 128 := by
  have : ∀ (a : Fin 128), 0 < a.val → a.val.testBit (lowN a.val) = true ∧ lowN a.val < 7 ∧ 0 < (memN a.val).length ∧ bits .and .i64 ((a.val : Nat) : Int) (-((a.val : Nat) : Int)) = ((2 ^ lowN a.val : Nat) : Int) ∧ 2 ^ lowN a.val &&& a.val = 2 ^ lowN a.val ∧ 2 ^ lowN a.val < 128 := by decide +kernel
  exact this ⟨L, h7⟩ h0

/-- The parts of L, each grown within S in n steps from its least member. -/
def partsN (R : Nat → Nat) (S n : Nat) : Nat → Nat → List Nat
  | 0, _ => []
  | f + 1, L => if L = 0 then [] else itN R S (2 ^ lowN L) n :: partsN R S n f (L - itN R S (2 ^ lowN L) n)

/-- The rows of a graph as numbers. -/
def rowN (l : List Int) (v : Nat) : Nat := (nth l v).toNat

theorem IsG.row_lt {n : Int} {l : List Int} (h : IsG n l) (v : Nat) (hv : v < l.length) : rowN l v < 2 ^ l.length ∧ nth l v = ((rowN l v : Nat) : Int) := by
  obtain ⟨h0, h1, -⟩ := (h.2.2.2 v hv).1
  have hn : n.toNat = l.length := by have := h.2.2.1; omega
  rw [hn] at h1
  have hp : (0 : Int) < 2 ^ l.length := Int.pow_pos (by decide)
  have h2 : nth l v < 2 ^ l.length := by
    rcases Int.lt_or_le (nth l v) (2 ^ l.length) with h' | h'
    · exact h'
    · have := Int.ediv_le_ediv hp h'
      rw [Int.ediv_self (by omega)] at this
      omega
  unfold rowN
  have h3 : ((2 ^ l.length : Nat) : Int) = (2 : Int) ^ l.length := by push_cast; rfl
  omega

theorem IsG.row_sym {n : Int} {l : List Int} (h : IsG n l) (i j : Nat) (hi : i < l.length) (hj : j < l.length) : (rowN l i).testBit j = (rowN l j).testBit i := by
  have h1 := h.sym hi hj
  rw [(h.row_lt i hi).2, (h.row_lt j hj).2] at h1
  have h2 := bitAt_nat (rowN l i) j
  have h3 := bitAt_nat (rowN l j) i
  rw [h1] at h2
  cases h4 : (rowN l i).testBit j <;> cases h5 : (rowN l j).testBit i <;> simp_all

instance (n : Int) (l : List Int) (x : Int) : Decidable (IsS n l x) := by unfold IsS; infer_instance

theorem IsS.nat {n : Int} {l : List Int} {x : Int} (h : IsS n l x) : x = ((x.toNat : Nat) : Int) ∧ x.toNat < 2 ^ l.length ∧ l.length ≤ 7 := by
  obtain ⟨hg, h0, h1⟩ := h
  have hn : n.toNat = l.length := by have := hg.2.2.1; omega
  rw [hn] at h1
  have h3 : ((2 ^ l.length : Nat) : Int) = (2 : Int) ^ l.length := by push_cast; rfl
  have := hg.2.1
  have := hg.2.2.1
  omega

theorem two_le (n : Nat) (h : n ≤ 7) : 2 ^ n ≤ 128 := by have := Nat.pow_le_pow_right (show 0 < 2 by omega) h; simpa using this

theorem mem_memN {X v : Nat} (h : v ∈ memN X) : v < 7 ∧ X.testBit v = true := by
  unfold memN at h
  simp at h
  exact h

theorem bit_lt {X n v : Nat} (hX : X < 2 ^ n) (h : X.testBit v = true) : v < n := by
  rcases Nat.lt_or_ge v n with h' | h'
  · exact h'
  · have : X < 2 ^ v := Nat.lt_of_lt_of_le hX (Nat.pow_le_pow_right (show 0 < 2 by omega) h')
    rw [Nat.testBit_lt_two_pow this] at h
    cases h

theorem around_lt {n : Int} {l : List Int} (h : IsG n l) {X : Nat} (hX : X < 2 ^ l.length) : aroundN (rowN l) X < 2 ^ l.length :=
  foldN_lt _ _ _ _ hX fun v hv => (h.row_lt v (bit_lt hX (mem_memN hv).2)).1

/-- What lies around a set; nothing if it is none. -/
def aroundR (n : Int) (l : List Int) (x : Int) : Int := if IsS n l x then ((aroundN (rowN l) x.toNat : Nat) : Int) else 0

/-- The parts of a set. -/
def partsR (n : Int) (l : List Int) (x : Int) : List Int := if IsS n l x then (partsN (rowN l) x.toNat l.length x.toNat x.toNat).map fun p : Nat => (p : Int) else []

/-- An int that is given. -/
def SaysN (x : Int) (w : World) (e : Ending) (w' : World) : Prop := e = .returned (.int .i64 x) ∧ Below w.heap.size w w'

end Go.Proofs.Ytpifgmmmmhenmab
