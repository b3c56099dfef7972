/- Maximal cliques: plain facts. -/
import Derived.Test.YtpifgmmmmhenmabV4
import Derived.Test.YtpifgmmmmhenmabB
import Derived.Test.YtpifgmmmmhenmabGl
namespace Go.Proofs.Ytpifgmmmmhenmab
set_option linter.unusedVariables false
set_option linter.unusedSimpArgs false
open Go.RowKit

/-- A clique as a number. -/
def Cl (l : List Int) (X : Nat) : Prop := X < 2 ^ l.length ∧ ∀ u v, X.testBit u = true → X.testBit v = true → u ≠ v → (rowN l u).testBit v = true

def andN (R : Nat → Nat) (S : Nat) (vs : List Nat) : Nat := vs.foldl (fun a v => a &&& R v) S

theorem andN_snoc (R : Nat → Nat) (S : Nat) (vs : List Nat) (v : Nat) : andN R S (vs ++ [v]) = andN R S vs &&& R v := by simp [andN]

theorem andN_bit (R : Nat → Nat) : ∀ (vs : List Nat) (S i : Nat), (andN R S vs).testBit i = (S.testBit i && vs.all fun v => (R v).testBit i)
  | [], S, i => by simp [andN]
  | v :: vs, S, i => by
    show (andN R (S &&& R v) vs).testBit i = _
    rw [andN_bit R vs, Nat.testBit_and]
    simp [Bool.and_assoc]

theorem andN_le (R : Nat → Nat) : ∀ (vs : List Nat) (S : Nat), andN R S vs ≤ S
  | [], S => Nat.le_refl _
  | v :: vs, S => Nat.le_trans (andN_le R vs (S &&& R v)) Nat.and_le_left

/-- The vertices that all of X have as neighbours. -/
def comN (l : List Int) (X : Nat) : Nat := andN (rowN l) (2 ^ l.length - 1) (memN X)

theorem comN_lt (l : List Int) (X : Nat) : comN l X < 2 ^ l.length := by
  have h := andN_le (rowN l) (memN X) (2 ^ l.length - 1)
  have : 0 < 2 ^ l.length := Nat.pow_pos (by decide)
  unfold comN
  omega

theorem mem_bit {X v : Nat} (hX : X < 128) : v ∈ memN X ↔ X.testBit v = true := ⟨fun h => (mem_memN h).2, fun h => by
  unfold memN
  simp [h]
  exact bit_lt (n := 7) (by simpa using hX) h⟩

theorem comN_bit {l : List Int} (hl : l.length ≤ 7) {X : Nat} (hX : X < 2 ^ l.length) (i : Nat) : (comN l X).testBit i = true ↔ i < l.length ∧ ∀ u, X.testBit u = true → (rowN l u).testBit i = true := by
  have h7 := two_le l.length hl
  unfold comN
  rw [andN_bit, Nat.testBit_two_pow_sub_one, Bool.and_eq_true, decide_eq_true_eq, List.all_eq_true]
  constructor
  · rintro ⟨h1, h2⟩; exact ⟨h1, fun u hu => h2 u ((mem_bit (by omega)).2 hu)⟩
  · rintro ⟨h1, h2⟩; exact ⟨h1, fun u hu => h2 u ((mem_bit (by omega)).1 hu)⟩

theorem row_self {n : Int} {l : List Int} (hg : IsG n l) {v : Nat} (hv : v < l.length) : (rowN l v).testBit v = false := by
  have h := ((hg.2.2.2 v hv).1).2.2
  rw [(hg.row_lt v hv).2] at h
  cases hb : (rowN l v).testBit v with
  | false => rfl
  | true => have := (bitAt_nat (rowN l v) v).2 hb; omega

theorem com_out {n : Int} {l : List Int} (hg : IsG n l) (hl : l.length ≤ 7) {X : Nat} (hX : X < 2 ^ l.length) {v : Nat} (h : (comN l X).testBit v = true) : X.testBit v = false := by
  obtain ⟨h1, h2⟩ := (comN_bit hl hX v).1 h
  cases hb : X.testBit v with
  | false => rfl
  | true => have := h2 v hb; rw [row_self hg h1] at this; cases this

theorem pop_put {X v : Nat} (hX : X < 128) (hv : v < 7) (h : X.testBit v = false) : popN (X ||| 2 ^ v) = popN X + 1 ∧ X ||| 2 ^ v < 128 := by
  have : ∀ (a : Fin 128) (b : Fin 7), a.val.testBit b.val = false → popN (a.val ||| 2 ^ b.val) = popN a.val + 1 ∧ a.val ||| 2 ^ b.val < 128 := by decide +kernel
  exact this ⟨X, hX⟩ ⟨v, hv⟩ h

theorem pop_take {X v : Nat} (hX : X < 128) (hv : v < 7) (h : X.testBit v = true) : popN (X - 2 ^ v) + 1 = popN X ∧ (X - 2 ^ v) ||| 2 ^ v = X ∧ X - 2 ^ v < 128 ∧ (X - 2 ^ v).testBit v = false := by
  have : ∀ (a : Fin 128) (b : Fin 7), a.val.testBit b.val = true → popN (a.val - 2 ^ b.val) + 1 = popN a.val ∧ (a.val - 2 ^ b.val) ||| 2 ^ b.val = a.val ∧ a.val - 2 ^ b.val < 128 ∧ (a.val - 2 ^ b.val).testBit b.val = false := by decide +kernel
  exact this ⟨X, hX⟩ ⟨v, hv⟩ h

theorem or_bit (X v i : Nat) : (X ||| 2 ^ v).testBit i = true ↔ X.testBit i = true ∨ i = v := by
  rw [Nat.testBit_or, Bool.or_eq_true, Nat.testBit_two_pow, decide_eq_true_eq]
  exact ⟨fun h => h.elim .inl fun h => .inr h.symm, fun h => h.elim .inl fun h => .inr h.symm⟩

/-- A clique and a common neighbour of it. -/
theorem cl_put {n : Int} {l : List Int} (hg : IsG n l) (hl : l.length ≤ 7) {X v : Nat} (h : Cl l X) (hv : (comN l X).testBit v = true) : Cl l (X ||| 2 ^ v) ∧ popN (X ||| 2 ^ v) = popN X + 1 := by
  have h7 := two_le l.length hl
  obtain ⟨h1, h2⟩ := (comN_bit hl h.1 v).1 hv
  have ho := com_out hg hl h.1 hv
  refine ⟨⟨Nat.or_lt_two_pow h.1 (Nat.pow_lt_pow_right (by decide) h1), fun u w hu hw hne => ?_⟩, (pop_put (by have := h.1; omega) (by omega) ho).1⟩
  rcases (or_bit X v u).1 hu with hu' | e1
  · rcases (or_bit X v w).1 hw with hw' | e2
    · exact h.2 u w hu' hw' hne
    · rw [e2]; exact h2 u hu'
  · rcases (or_bit X v w).1 hw with hw' | e2
    · rw [e1, hg.row_sym v w h1 (bit_lt h.1 hw')]; exact h2 w hw'
    · exact absurd (e1.trans e2.symm) hne

/-- A clique that is not empty comes from a smaller one. -/
theorem cl_take {n : Int} {l : List Int} (hg : IsG n l) (hl : l.length ≤ 7) {Y : Nat} (h : Cl l Y) (hp : 0 < popN Y) : ∃ X v, Cl l X ∧ popN X + 1 = popN Y ∧ (comN l X).testBit v = true ∧ X ||| 2 ^ v = Y := by
  have h7 := two_le l.length hl
  have hY7 : Y < 128 := by have := h.1; omega
  obtain ⟨v, hv⟩ : ∃ v, v ∈ memN Y := by
    unfold popN at hp
    match hm : memN Y with
    | [] => rw [hm] at hp; simp at hp
    | a :: t => exact ⟨a, by simp⟩
  have hvb := (mem_memN hv).2
  obtain ⟨p1, p2, p3, p4⟩ := pop_take hY7 (mem_memN hv).1 hvb
  have hsub : ∀ i, (Y - 2 ^ v).testBit i = true → Y.testBit i = true ∧ i ≠ v := fun i hi => ⟨by rw [← p2, or_bit]; exact .inl hi, fun e => by rw [e, p4] at hi; cases hi⟩
  have hX : Y - 2 ^ v < 2 ^ l.length := Nat.lt_of_le_of_lt (Nat.sub_le _ _) h.1
  refine ⟨Y - 2 ^ v, v, ⟨hX, fun u w hu hw hne => h.2 u w (hsub u hu).1 (hsub w hw).1 hne⟩, p1, (comN_bit hl hX v).2 ⟨bit_lt h.1 hvb, fun u hu => h.2 u v (hsub u hu).1 hvb (hsub u hu).2⟩, p2⟩

theorem clique_cl {n : Int} {l : List Int} (hg : IsG n l) (X : Nat) : CliqueS n l (X : Int) ↔ Cl l X := by
  have hn : n.toNat = l.length := by have := hg.2.2.1; omega
  have hl : l.length ≤ 7 := by have := hg.2.1; have := hg.2.2.1; omega
  have h7 := two_le l.length hl
  have hp : ((2 ^ l.length : Nat) : Int) = (2 : Int) ^ l.length := by push_cast; rfl
  have key : ∀ v, v < l.length → X < 128 → X.testBit v = true → (bits .and .i64 (X : Int) (nth l v) = (X : Int) - 2 ^ v ↔ ∀ i, X.testBit i = true → i ≠ v → (rowN l v).testBit i = true) := fun v hv hX hb => by
    obtain ⟨r1, r2⟩ := hg.row_lt v hv
    have hs : Sub (2 ^ v) X := fun i hi => by
      rw [Nat.testBit_two_pow] at hi
      obtain rfl := of_decide_eq_true hi
      exact hb
    have hle := sub_le hs
    have e : (X : Int) - 2 ^ v = ((X - 2 ^ v : Nat) : Int) := by
      have : ((2 ^ v : Nat) : Int) = (2 : Int) ^ v := by push_cast; rfl
      omega
    rw [r2, (bits_nat X (rowN l v) hX (by omega)).1, e]
    constructor
    · intro h i hi hne
      have h2 : X &&& rowN l v = X - 2 ^ v := by exact_mod_cast h
      have h3 : (X - 2 ^ v).testBit i = true := (minus_bit hX hs i).2 ⟨hi, by rw [Nat.testBit_two_pow]; exact decide_eq_false fun e => hne e.symm⟩
      rw [← h2, Nat.testBit_and, Bool.and_eq_true] at h3
      exact h3.2
    · intro h
      have : X &&& rowN l v = X - 2 ^ v := eq_of_bits fun i => by
        rw [minus_bit hX hs i, Nat.testBit_and, Bool.and_eq_true, Nat.testBit_two_pow]
        constructor
        · rintro ⟨h1, h2⟩
          exact ⟨h1, decide_eq_false fun e => by subst e; rw [row_self hg hv] at h2; cases h2⟩
        · rintro ⟨h1, h2⟩
          exact ⟨h1, h i h1 fun e => by rw [e] at h2; simp at h2⟩
      rw [this]
  unfold CliqueS IsS
  rw [hn]
  constructor
  · rintro ⟨⟨-, -, h2⟩, h3⟩
    have hX : X < 2 ^ l.length := by omega
    refine ⟨hX, fun u v hu hv hne => ?_⟩
    exact (key u (bit_lt hX hu) (by omega) hu).1 (h3 u (bit_lt hX hu) ((bitAt_nat X u).2 hu)) v hv fun e => hne e.symm
  · rintro ⟨hX, h2⟩
    refine ⟨⟨hg, by omega, by omega⟩, fun v hv hb => ?_⟩
    have hb' := (bitAt_nat X v).1 hb
    exact (key v hv (by omega) hb').2 fun i hi hne => h2 v i hb' hi fun e => hne e.symm

/-- A clique that cannot grow. -/
def MaxC (l : List Int) (X : Nat) : Prop := Cl l X ∧ comN l X = 0

def maxB (n : Int) (l : List Int) (X : Nat) : Bool := decide (CliqueS n l (X : Int)) && comN l X == 0

theorem maxB_iff {n : Int} {l : List Int} (hg : IsG n l) (X : Nat) : maxB n l X = true ↔ MaxC l X := by
  unfold maxB MaxC
  rw [Bool.and_eq_true, decide_eq_true_eq, clique_cl hg, beq_iff_eq]

/-- Those below k, in ascending order. -/
def maxK (n : Int) (l : List Int) (k : Nat) : List Int := ((List.range k).filter (maxB n l)).map fun X : Nat => (X : Int)

def maxR (n : Int) (l : List Int) : List Int := if IsG n l then maxK n l (2 ^ l.length) else []

theorem maxK_length (n : Int) (l : List Int) (k : Nat) : (maxK n l k).length ≤ k := by
  unfold maxK
  rw [List.length_map]
  have := List.length_filter_le (maxB n l) (List.range k)
  simpa using this

theorem maxR_length (n : Int) (l : List Int) : (maxR n l).length ≤ 128 := by
  unfold maxR
  split
  · rename_i hg
    have := maxK_length n l (2 ^ l.length)
    have := two_le l.length (by have := hg.2.1; have := hg.2.2.1; omega)
    omega
  · simp

theorem mem_maxK {n : Int} {l : List Int} (hg : IsG n l) {k : Nat} (X : Nat) : (X : Int) ∈ maxK n l k ↔ X < k ∧ MaxC l X := by
  unfold maxK
  rw [List.mem_map]
  constructor
  · rintro ⟨Y, hY, e⟩
    obtain rfl : Y = X := by omega
    rw [List.mem_filter, List.mem_range, maxB_iff hg] at hY
    exact hY
  · rintro ⟨h1, h2⟩
    exact ⟨X, by rw [List.mem_filter, List.mem_range, maxB_iff hg]; exact ⟨h1, h2⟩, rfl⟩

end Go.Proofs.Ytpifgmmmmhenmab
