/- How often a vertex begins: plain facts. -/
import Derived.Test.YtpifgmmmmhenmabB
namespace Go.Proofs.Ytpifgmmmmhenmab
set_option linter.unusedVariables false
set_option linter.unusedSimpArgs false
open Go.RowKit

/-- At how many places below i does it begin? -/
def cntB (B : Nat → Bool) (i : Nat) : Nat := ((List.range i).filter B).length

theorem cntB_succ (B : Nat → Bool) (i : Nat) : cntB B (i + 1) = cntB B i + (if B i = true then 1 else 0) := by
  unfold cntB
  rw [List.range_succ, List.filter_append, List.length_append]
  cases h : B i <;> simp [h]

theorem cntB_mono (B : Nat → Bool) {i j : Nat} (h : i ≤ j) : cntB B i ≤ cntB B j := by
  induction j with
  | zero => obtain rfl : i = 0 := by omega
            exact Nat.le_refl _
  | succ j ih =>
    rcases Nat.lt_or_ge j i with h' | h'
    · obtain rfl : i = j + 1 := by omega
      exact Nat.le_refl _
    · exact Nat.le_trans (ih h') (by rw [cntB_succ]; split <;> omega)

theorem cntB_le (B : Nat → Bool) (i : Nat) : cntB B i ≤ i := by
  have := List.length_filter_le B (List.range i)
  simpa [cntB] using this

/-- No vertex begins at two places. -/
def OnceB (B : Nat → Nat → Bool) (n : Nat) : Prop := ∀ v, v < 7 → cntB (B v) n ≤ 1

instance (B : Nat → Nat → Bool) (n : Nat) : Decidable (OnceB B n) := by unfold OnceB; infer_instance

/-- The number of the set at i, as a natural number. -/
def setAt (l : List Int) (i : Nat) : Nat := (nth l i).toNat

/-- All sets are sets of at most seven vertices. -/
def Sets7 (l : List Int) : Prop := ∀ x ∈ l, 0 ≤ x ∧ x < 128

theorem Sets7.at {l : List Int} (h : Sets7 l) {i : Nat} (hi : i < l.length) : nth l i = ((setAt l i : Nat) : Int) ∧ setAt l i < 128 := by
  have := h (nth l i) (nth_mem l i hi)
  unfold setAt
  omega

/-- Does v begin at i, in a list of sets? -/
def begL (l : List Int) (v i : Nat) : Bool := (setAt l i).testBit v && (i == 0 || !(setAt l (i - 1)).testBit v)

/-- The set before i. -/
def lastN (l : List Int) (i : Nat) : Nat := if i = 0 then 0 else setAt l (i - 1)

theorem begL_last (l : List Int) (v i : Nat) : begL l v i = ((setAt l i).testBit v && !(lastN l i).testBit v) := by
  unfold begL lastN
  cases i with
  | zero => simp
  | succ i => simp

/-- What holds between two rounds: G is what has come and gone. -/
def FolI (l : List Int) (i G : Nat) : Prop := G < 128 ∧ (∀ v, v < 7 → cntB (begL l v) i ≤ 1) ∧ ∀ v, v < 7 → (G.testBit v = true ↔ cntB (begL l v) i = 1 ∧ (lastN l i).testBit v = false)

theorem fol_zero (l : List Int) : FolI l 0 0 := ⟨by omega, fun v _ => by simp [cntB], fun v _ => by simp [cntB]⟩

/-- What has gone when the next set comes. -/
def goneN (l : List Int) (i G : Nat) : Nat := G ||| (lastN l i &&& (127 ^^^ setAt l i))

theorem lastN_lt {l : List Int} (h : Sets7 l) {i : Nat} (hi : i ≤ l.length) : lastN l i < 128 := by
  unfold lastN
  split
  · omega
  · exact (h.at (by omega)).2

theorem goneN_lt {l : List Int} (h : Sets7 l) {i G : Nat} (hi : i ≤ l.length) (hG : G < 128) : goneN l i G < 128 := by
  unfold goneN
  have h1 : lastN l i < 2 ^ 7 := lastN_lt h hi
  exact Nat.or_lt_two_pow (n := 7) hG (Nat.lt_of_le_of_lt Nat.and_le_left h1)

theorem not7_bit (X v : Nat) (hv : v < 7) : (127 ^^^ X).testBit v = !X.testBit v := by
  rw [Nat.testBit_xor]
  have : ∀ v : Fin 7, (127 : Nat).testBit v.val = true := by decide
  rw [this ⟨v, hv⟩]
  simp

/-- Where a vertex is both in what has come and in what came before it, it has begun. -/
theorem last_cnt (l : List Int) (v : Nat) : ∀ i, (lastN l i).testBit v = true → 1 ≤ cntB (begL l v) i
  | 0, h => by simp [lastN] at h
  | i + 1, h => by
    rw [cntB_succ, begL_last]
    have h' : (setAt l i).testBit v = true := by simpa [lastN] using h
    cases hb : (lastN l i).testBit v with
    | true => have := last_cnt l v i hb; omega
    | false => rw [h']; simp

theorem bitF (x la g g' : Bool) (c : Nat) (h : c ≤ 1) (h1 : g = true ↔ c = 1 ∧ la = false) (h2 : g' = (g || (la && !x))) (h3 : (g' && x) = false) (h4 : la = true → 1 ≤ c) :
    c + (if (x && !la) = true then 1 else 0) ≤ 1 ∧ (g' = true ↔ c + (if (x && !la) = true then 1 else 0) = 1 ∧ x = false) := by
  have : c = 0 ∨ c = 1 := by omega
  rcases this with rfl | rfl <;> revert h4 h3 h2 h1 <;> revert g' g la x <;> decide

theorem bitH (x la g g' : Bool) (c : Nat) (h : c ≤ 1) (h1 : g = true ↔ c = 1 ∧ la = false) (h2 : g' = (g || (la && !x))) (h3 : (g' && x) = true) :
    1 < c + (if (x && !la) = true then 1 else 0) := by
  have : c = 0 ∨ c = 1 := by omega
  rcases this with rfl | rfl <;> revert h3 h2 h1 <;> revert g' g la x <;> decide

theorem bitT (x t : Bool) (c : Nat) (h : c ≤ 1) (h1 : t = true ↔ c = 1) (h3 : (t && x) = false) :
    c + (if x = true then 1 else 0) ≤ 1 ∧ ((t || x) = true ↔ c + (if x = true then 1 else 0) = 1) := by
  have : c = 0 ∨ c = 1 := by omega
  rcases this with rfl | rfl <;> revert h3 h1 <;> revert t x <;> decide

theorem bitU (x t : Bool) (c : Nat) (h : c ≤ 1) (h1 : t = true ↔ c = 1) (h3 : (t && x) = true) :
    1 < c + (if x = true then 1 else 0) := by
  have : c = 0 ∨ c = 1 := by omega
  rcases this with rfl | rfl <;> revert h3 h1 <;> revert t x <;> decide

theorem fol_step {l : List Int} (h : Sets7 l) {i G : Nat} (hi : i < l.length) (hI : FolI l i G) (hz : goneN l i G &&& setAt l i = 0) : FolI l (i + 1) (goneN l i G) := by
  obtain ⟨h1, h2, h3⟩ := hI
  have key : ∀ v, v < 7 → ((goneN l i G).testBit v = (G.testBit v || ((lastN l i).testBit v && !(setAt l i).testBit v))) := fun v hv => by
    unfold goneN
    rw [Nat.testBit_or, Nat.testBit_and, not7_bit _ _ hv]
  have hno : ∀ v, v < 7 → ((goneN l i G).testBit v && (setAt l i).testBit v) = false := fun v hv => by
    have := congrArg (fun X => Nat.testBit X v) hz
    simpa [Nat.testBit_and] using this
  have hlast : lastN l (i + 1) = setAt l i := by simp [lastN]
  have all : ∀ v, v < 7 → _ := fun v hv => bitF _ _ _ _ _ (h2 v hv) (h3 v hv) (key v hv) (hno v hv) (last_cnt l v i)
  refine ⟨goneN_lt h (by omega) h1, fun v hv => ?_, fun v hv => ?_⟩
  · rw [cntB_succ, begL_last]
    exact (all v hv).1
  · rw [cntB_succ, begL_last, hlast]
    exact (all v hv).2

theorem bits_some {X : Nat} (h : X ≠ 0) (h7 : X < 128) : ∃ v, v < 7 ∧ X.testBit v = true := by
  have : ∀ X : Fin 128, X.val ≠ 0 → ∃ v : Fin 7, X.val.testBit v.val = true := by decide +kernel
  obtain ⟨v, hv⟩ := this ⟨X, h7⟩ h
  exact ⟨v.val, v.isLt, hv⟩

theorem fol_hit {l : List Int} (h : Sets7 l) {i G : Nat} (hi : i < l.length) (hI : FolI l i G) (hz : goneN l i G &&& setAt l i ≠ 0) : ¬ OnceB (begL l) l.length := fun hall => by
  obtain ⟨h1, h2, h3⟩ := hI
  obtain ⟨v, hv, hb⟩ := bits_some hz (Nat.lt_of_le_of_lt Nat.and_le_right (h.at hi).2)
  rw [Nat.testBit_and] at hb
  unfold goneN at hb
  rw [Nat.testBit_or, Nat.testBit_and, not7_bit _ _ hv] at hb
  have a0 := hall v hv
  have a1 := cntB_mono (begL l v) (show i + 1 ≤ l.length by omega)
  rw [cntB_succ, begL_last] at a1
  have := bitH _ _ _ _ _ (h2 v hv) (h3 v hv) rfl hb
  omega

theorem fol_all {l : List Int} {G : Nat} (hI : FolI l l.length G) : OnceB (begL l) l.length := hI.2.1

/-! ### Bags that hang together -/

/-- Does v begin at i, in a tree with these parents? -/
def begT (l m : List Int) (v i : Nat) : Bool := (setAt l i).testBit v && (i == 0 || !(setAt l (nth m i).toNat).testBit v)

/-- The vertices that begin at i. -/
def topN (l m : List Int) (i : Nat) : Nat := if i = 0 then setAt l 0 else setAt l i &&& (127 ^^^ setAt l (nth m i).toNat)

theorem topN_bit (l m : List Int) (v i : Nat) (hv : v < 7) : (topN l m i).testBit v = begT l m v i := by
  unfold topN begT
  by_cases h : i = 0
  · subst h; simp
  · rw [if_neg h, Nat.testBit_and, not7_bit _ _ hv]
    have : (i == 0) = false := by simpa using h
    rw [this]; simp

theorem topN_lt {l m : List Int} (h : Sets7 l) {i : Nat} (hi : i < l.length) : topN l m i < 128 := by
  unfold topN
  split
  · exact (h.at (by omega)).2
  · exact Nat.lt_of_le_of_lt Nat.and_le_left (h.at hi).2

def HangI (l m : List Int) (i T : Nat) : Prop := T < 128 ∧ (∀ v, v < 7 → cntB (begT l m v) i ≤ 1) ∧ ∀ v, v < 7 → (T.testBit v = true ↔ cntB (begT l m v) i = 1)

theorem hang_zero (l m : List Int) : HangI l m 0 0 := ⟨by omega, fun v _ => by simp [cntB], fun v _ => by simp [cntB]⟩

theorem hang_step {l m : List Int} (h : Sets7 l) {i T : Nat} (hi : i < l.length) (hI : HangI l m i T) (hz : T &&& topN l m i = 0) : HangI l m (i + 1) (T ||| topN l m i) := by
  obtain ⟨h1, h2, h3⟩ := hI
  have hno : ∀ v, v < 7 → (T.testBit v && begT l m v i) = false := fun v hv => by
    have := congrArg (fun X => Nat.testBit X v) hz
    rw [← topN_bit l m v i hv]
    simpa [Nat.testBit_and] using this
  refine ⟨Nat.or_lt_two_pow (n := 7) h1 (topN_lt h hi), fun v hv => ?_, fun v hv => ?_⟩
  · rw [cntB_succ]
    exact (bitT _ _ _ (h2 v hv) (h3 v hv) (hno v hv)).1
  · rw [cntB_succ, Nat.testBit_or, topN_bit l m v i hv]
    exact (bitT _ _ _ (h2 v hv) (h3 v hv) (hno v hv)).2

theorem hang_hit {l m : List Int} (h : Sets7 l) {i T : Nat} (hi : i < l.length) (hI : HangI l m i T) (hz : T &&& topN l m i ≠ 0) : ¬ OnceB (begT l m) l.length := fun hall => by
  obtain ⟨h1, h2, h3⟩ := hI
  obtain ⟨v, hv, hb⟩ := bits_some hz (Nat.lt_of_le_of_lt Nat.and_le_left h1)
  rw [Nat.testBit_and, topN_bit l m v i hv] at hb
  have a0 := hall v hv
  have a1 := cntB_mono (begT l m v) (show i + 1 ≤ l.length by omega)
  rw [cntB_succ] at a1
  have := bitU _ _ _ (h2 v hv) (h3 v hv) hb
  omega

theorem andNot_any (a b : Nat) (ha : a < 128) (hb : b < 128) : bits .andNot .i64 (a : Int) (b : Int) = ((a &&& (127 ^^^ b) : Nat) : Int) := by
  have : ∀ (a b : Fin 128), bits .andNot .i64 ((a.val : Nat) : Int) ((b.val : Nat) : Int) = ((a.val &&& (127 ^^^ b.val) : Nat) : Int) := by decide +kernel
  exact this ⟨a, ha⟩ ⟨b, hb⟩

end Go.Proofs.Ytpifgmmmmhenmab
