/- Maximal cliques, level by level: plain facts. -/
import Derived.Test.YtpifgmmmmhenmabMq
import Derived.Test.YtpifgmmmmhenmabMp
namespace Go.Proofs.Ytpifgmmmmhenmab
set_option linter.unusedVariables false
set_option linter.unusedSimpArgs false
open Go.RowKit

theorem pop_zero {X : Nat} (hX : X < 128) (h : popN X = 0) : X = 0 := by
  have : ∀ a : Fin 128, popN a.val = 0 → a.val = 0 := by decide +kernel
  exact this ⟨X, hX⟩ h

theorem cl_zero (l : List Int) : Cl l 0 := ⟨Nat.pow_pos (by decide), fun u v hu => by simp at hu⟩

theorem pop_seven (X : Nat) : popN X ≤ 7 := by
  unfold popN memN
  exact Nat.le_trans (List.length_filter_le _ _) (by simp)

/-- The cliques with k vertices. -/
def LvK (l : List Int) (k X : Nat) : Prop := Cl l X ∧ popN X = k

theorem lv_start {l : List Int} (hl : l.length ≤ 7) (X : Nat) : (False ∨ X = 0) ↔ LvK l 0 X := by
  have h7 := two_le l.length hl
  constructor
  · rintro (h | rfl)
    · exact h.elim
    · exact ⟨cl_zero l, by decide⟩
  · rintro ⟨h1, h2⟩
    exact .inr (pop_zero (by have := h1.1; omega) h2)

theorem lv_next {n : Int} {l : List Int} (hg : IsG n l) (hl : l.length ≤ 7) (k Y : Nat) : (∃ X v, LvK l k X ∧ (comN l X).testBit v = true ∧ Y = X ||| 2 ^ v) ↔ LvK l (k + 1) Y := by
  constructor
  · rintro ⟨X, v, ⟨h1, h2⟩, h3, rfl⟩
    obtain ⟨h4, h5⟩ := cl_put hg hl h1 h3
    exact ⟨h4, by omega⟩
  · rintro ⟨h1, h2⟩
    obtain ⟨X, v, h3, h4, h5, h6⟩ := cl_take hg hl h1 (by omega)
    exact ⟨X, v, ⟨h3, by omega⟩, h5, h6.symm⟩

theorem lv_down {n : Int} {l : List Int} (hg : IsG n l) (hl : l.length ≤ 7) {k : Nat} (hn : ∀ X, ¬ LvK l k X) : ∀ (d X : Nat), popN X = k + d → ¬ Cl l X
  | 0, X, hp, h => hn X ⟨h, by omega⟩
  | d + 1, X, hp, h => by
    obtain ⟨Y, v, h3, h4, -, -⟩ := cl_take hg hl h (by omega)
    exact lv_down hg hl hn d Y (by omega) h3

theorem left_step (left : Lit → Bool) (X Z : Nat) : (left (.int .i64 (Z : Int)) && !(Lit.int .i64 (Z : Int)).sameKey (.int .i64 (X : Int))) = false ↔ left (.int .i64 (Z : Int)) = false ∨ Z = X := by
  rw [Bool.and_eq_false_iff]
  constructor
  · rintro (h | h)
    · exact .inl h
    · have h2 : (Lit.int .i64 (Z : Int)).sameKey (.int .i64 (X : Int)) = true := by simpa using h
      have h3 := WideAt.sameKey_eq h2
      simp only [Lit.int.injEq, true_and] at h3
      exact .inr (by omega)
  · rintro (h | rfl)
    · exact .inl h
    · exact .inr (by rw [WideAt.sameKey_self (show WideAt.IsKeyLit (.int .i64 (Z : Int)) from trivial)]; rfl)

/-- What comes of those that have been met. -/
def NextS (l : List Int) (k : Nat) (left : Lit → Bool) (Y : Nat) : Prop := ∃ X v, LvK l k X ∧ left (.int .i64 (X : Int)) = false ∧ (comN l X).testBit v = true ∧ Y = X ||| 2 ^ v

theorem next_step {l : List Int} {k : Nat} {left : Lit → Bool} {X : Nat} (h : LvK l k X) (Y : Nat) : (NextS l k left Y ∨ ∃ v, (comN l X).testBit v = true ∧ Y = X ||| 2 ^ v) ↔ NextS l k (fun z => left z && !z.sameKey (.int .i64 (X : Int))) Y := by
  constructor
  · rintro (⟨Z, v, h1, h2, h3, h4⟩ | ⟨v, h3, h4⟩)
    · exact ⟨Z, v, h1, (left_step left X Z).2 (.inl h2), h3, h4⟩
    · exact ⟨X, v, h, (left_step left X X).2 (.inr rfl), h3, h4⟩
  · rintro ⟨Z, v, h1, h2, h3, h4⟩
    rcases (left_step left X Z).1 h2 with h2 | rfl
    · exact .inl ⟨Z, v, h1, h2, h3, h4⟩
    · exact .inr ⟨v, h3, h4⟩

theorem next_start {l : List Int} {k : Nat} {D : DataW Unit} (hk : KeysAre D (LvK l k)) (Y : Nat) : False ↔ NextS l k (Maps.has D) Y := ⟨False.elim, fun ⟨X, v, h1, h2, _⟩ => by
  have := (hk (.int .i64 (X : Int))).2 ⟨X, h1, rfl⟩
  rw [h2] at this; cases this⟩

theorem next_end {n : Int} {l : List Int} (hg : IsG n l) (hl : l.length ≤ 7) {k : Nat} {left : Lit → Bool} (h : ∀ kl, left kl = false) (Y : Nat) : NextS l k left Y ↔ LvK l (k + 1) Y := by
  rw [← lv_next hg hl]
  constructor
  · rintro ⟨X, v, h1, -, h3, h4⟩; exact ⟨X, v, h1, h3, h4⟩
  · rintro ⟨X, v, h1, h3, h4⟩; exact ⟨X, v, h1, h _, h3, h4⟩

/-- The maximal cliques with fewer than k vertices, each once. -/
def InK (l : List Int) (k : Nat) (L : List Int) : Prop := L.Nodup ∧ ∀ x : Int, x ∈ L ↔ ∃ Z : Nat, x = (Z : Int) ∧ MaxC l Z ∧ popN Z < k

def InL (l : List Int) (k : Nat) (left : Lit → Bool) (L : List Int) : Prop := L.Nodup ∧ ∀ x : Int, x ∈ L ↔ ∃ Z : Nat, x = (Z : Int) ∧ MaxC l Z ∧ (popN Z < k ∨ (popN Z = k ∧ left (.int .i64 (Z : Int)) = false))

theorem inK_zero (l : List Int) : InK l 0 [] := ⟨List.nodup_nil, fun x => ⟨fun h => (by cases h), fun ⟨Z, _, _, h⟩ => by omega⟩⟩

theorem inL_start {l : List Int} {k : Nat} {L : List Int} {D : DataW Unit} (h : InK l k L) (hk : KeysAre D (LvK l k)) : InL l k (Maps.has D) L := ⟨h.1, fun x => (h.2 x).trans ⟨fun ⟨Z, h1, h2, h3⟩ => ⟨Z, h1, h2, .inl h3⟩, fun ⟨Z, h1, h2, h3⟩ => ⟨Z, h1, h2, h3.elim id fun ⟨h4, h5⟩ => by
  have := (hk (.int .i64 (Z : Int))).2 ⟨Z, ⟨h2.1, h4⟩, rfl⟩
  rw [h5] at this; cases this⟩⟩⟩

theorem inL_end {l : List Int} {k : Nat} {L : List Int} {left : Lit → Bool} (h : InL l k left L) (hl : ∀ kl, left kl = false) : InK l (k + 1) L := ⟨h.1, fun x => (h.2 x).trans ⟨fun ⟨Z, h1, h2, h3⟩ => ⟨Z, h1, h2, by rcases h3 with h3 | ⟨h3, -⟩ <;> omega⟩, fun ⟨Z, h1, h2, h3⟩ => ⟨Z, h1, h2, by
  rcases Nat.lt_or_ge (popN Z) k with h4 | h4
  · exact .inl h4
  · exact .inr ⟨by omega, hl _⟩⟩⟩⟩

theorem inL_no {l : List Int} {k : Nat} {L : List Int} {left : Lit → Bool} {X : Nat} (h : InL l k left L) (hc : LvK l k X) (h0 : comN l X ≠ 0) : InL l k (fun z => left z && !z.sameKey (.int .i64 (X : Int))) L := ⟨h.1, fun x => (h.2 x).trans ⟨fun ⟨Z, h1, h2, h3⟩ => ⟨Z, h1, h2, h3.imp id fun ⟨h4, h5⟩ => ⟨h4, (left_step left X Z).2 (.inl h5)⟩⟩, fun ⟨Z, h1, h2, h3⟩ => ⟨Z, h1, h2, h3.imp id fun ⟨h4, h5⟩ => ⟨h4, ((left_step left X Z).1 h5).elim id fun e => by subst e; exact absurd h2.2 h0⟩⟩⟩⟩

theorem inL_yes {l : List Int} {k : Nat} {L : List Int} {left : Lit → Bool} {X : Nat} (h : InL l k left L) (hc : LvK l k X) (hl : left (.int .i64 (X : Int)) = true) (h0 : comN l X = 0) : InL l k (fun z => left z && !z.sameKey (.int .i64 (X : Int))) (L ++ [(X : Int)]) := by
  refine ⟨List.nodup_append.2 ⟨h.1, by simp, fun a ha b hb e => ?_⟩, fun x => ?_⟩
  · simp at hb
    subst hb
    subst e
    obtain ⟨Z, h1, h2, h3⟩ := (h.2 _).1 ha
    obtain rfl : Z = X := by omega
    rcases h3 with h3 | ⟨-, h3⟩
    · have := hc.2; omega
    · rw [hl] at h3; cases h3
  · rw [List.mem_append, h.2 x]
    constructor
    · rintro (⟨Z, h1, h2, h3⟩ | hx)
      · exact ⟨Z, h1, h2, h3.imp id fun ⟨h4, h5⟩ => ⟨h4, (left_step left X Z).2 (.inl h5)⟩⟩
      · simp at hx
        exact ⟨X, hx, ⟨hc.1, h0⟩, .inr ⟨hc.2, (left_step left X X).2 (.inr rfl)⟩⟩
    · rintro ⟨Z, h1, h2, h3⟩
      rcases h3 with h3 | ⟨h4, h5⟩
      · exact .inl ⟨Z, h1, h2, .inl h3⟩
      · rcases (left_step left X Z).1 h5 with h5 | rfl
        · exact .inl ⟨Z, h1, h2, .inr ⟨h4, h5⟩⟩
        · exact .inr (by simp [h1])

/-- No clique has k vertices: all maximal ones are there. -/
theorem inK_all {n : Int} {l : List Int} (hg : IsG n l) (hl : l.length ≤ 7) {k : Nat} {L : List Int} (h : InK l k L) (hn : ∀ X, ¬ LvK l k X) : L.Nodup ∧ ∀ x : Int, x ∈ L ↔ ∃ X : Nat, x = (X : Int) ∧ MaxC l X := ⟨h.1, fun x => (h.2 x).trans ⟨fun ⟨Z, h1, h2, _⟩ => ⟨Z, h1, h2⟩, fun ⟨Z, h1, h2⟩ => ⟨Z, h1, h2, by
  rcases Nat.lt_or_ge (popN Z) k with h3 | h3
  · exact h3
  · exact absurd h2.1 (lv_down hg hl hn (popN Z - k) Z (by omega))⟩⟩⟩

theorem lv_eight (l : List Int) (X : Nat) : ¬ LvK l 8 X := fun h => by
  have := pop_seven X
  have := h.2
  omega

end Go.Proofs.Ytpifgmmmmhenmab
