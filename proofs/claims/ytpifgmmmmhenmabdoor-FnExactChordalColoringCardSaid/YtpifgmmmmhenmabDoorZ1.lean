/- Orders in which the vertex with the greatest mark comes next: plain facts. -/
import Derived.Test.YtpifgmmmmhenmabDoorV5
import Derived.Test.YtpifgmmmmhenmabDoorP1
import Derived.Test.YtpifgmmmmhenmabDoorO1
namespace Go.Proofs.YtpifgmmmmhenmabDoor
set_option linter.unusedVariables false
set_option linter.unusedSimpArgs false
open Go.RowKit

/-- The first of those that have come with the greatest mark. -/
def pickS (mk : Nat → Nat) (o : Option Nat) (v : Nat) : Option Nat :=
  match o with
  | none => some v
  | some b => if mk b < mk v then some v else some b

def pickL (mk : Nat → Nat) (l : List Nat) : Option Nat := l.foldl (pickS mk) none

theorem pickL_snoc (mk : Nat → Nat) (l : List Nat) (v : Nat) : pickL mk (l ++ [v]) = pickS mk (pickL mk l) v := by simp [pickL]

theorem snoc_ind {P : List Nat → Prop} (h0 : P []) (hs : ∀ l x, P l → P (l ++ [x])) (l : List Nat) : P l := by
  rw [← List.reverse_reverse l]
  induction l.reverse with
  | nil => exact h0
  | cons x t ih => rw [List.reverse_cons]; exact hs _ _ ih

theorem pickL_mem (mk : Nat → Nat) (l : List Nat) : ∀ b, pickL mk l = some b → b ∈ l := by
  refine snoc_ind (P := fun l => ∀ b, pickL mk l = some b → b ∈ l) ?_ ?_ l
  · intro b h; cases h
  · intro l v ih b h
    rw [pickL_snoc] at h
    unfold pickS at h
    split at h
    · obtain rfl := Option.some.inj h; simp
    · rename_i c hc
      split at h
      · obtain rfl := Option.some.inj h; simp
      · obtain rfl := Option.some.inj h
        exact List.mem_append_left _ (ih _ hc)

theorem pickL_some (mk : Nat → Nat) (l : List Nat) (h : l ≠ []) : ∃ b, pickL mk l = some b := by
  revert h
  refine snoc_ind (P := fun l => l ≠ [] → ∃ b, pickL mk l = some b) ?_ ?_ l
  · exact fun h => absurd rfl h
  · intro l v ih _
    rw [pickL_snoc]
    unfold pickS
    split
    · exact ⟨_, rfl⟩
    · split <;> exact ⟨_, rfl⟩

theorem pickL_congr {mk mk' : Nat → Nat} (h : ∀ a b, mk a < mk b ↔ mk' a < mk' b) (l : List Nat) : pickL mk l = pickL mk' l := by
  refine snoc_ind (P := fun l => pickL mk l = pickL mk' l) ?_ ?_ l
  · rfl
  · intro l v ih
    rw [pickL_snoc, pickL_snoc, ih]
    unfold pickS
    split
    · rfl
    · rename_i b _
      by_cases hb : mk b < mk v
      · rw [if_pos hb, if_pos ((h b v).1 hb)]
      · rw [if_neg hb, if_neg (fun h' => hb ((h b v).2 h'))]

theorem pickL_congr_on {mk mk' : Nat → Nat} (l : List Nat) (h : ∀ a ∈ l, ∀ b ∈ l, (mk a < mk b ↔ mk' a < mk' b)) : pickL mk l = pickL mk' l := by
  revert h
  refine snoc_ind (P := fun l => (∀ a ∈ l, ∀ b ∈ l, (mk a < mk b ↔ mk' a < mk' b)) → pickL mk l = pickL mk' l) ?_ ?_ l
  · intro _; rfl
  · intro l v ih h
    rw [pickL_snoc, pickL_snoc, ← ih fun a ha b hb => h a (by simp [ha]) b (by simp [hb])]
    unfold pickS
    split
    · rfl
    · rename_i b hb0
      have hm := pickL_mem mk l b hb0
      have h1 := h b (by simp [hm]) v (by simp)
      by_cases hb : mk b < mk v
      · rw [if_pos hb, if_pos (h1.1 hb)]
      · rw [if_neg hb, if_neg (fun h' => hb (h1.2 h'))]

/-- The one that comes next. -/
def nextM (mk : Nat → Nat) (X : Nat) : Nat := (pickL mk (memN X)).getD 0

/-- The order from a beginning on, while some of X are left. -/
def ordM (mk : List Int → Nat → Nat) : Nat → List Int → Nat → List Int
  | 0, L, _ => L
  | f + 1, L, X => if X = 0 then L else ordM mk f (L ++ [(nextM (mk L) X : Int)]) (X - 2 ^ nextM (mk L) X)

theorem ordM_zero (mk : List Int → Nat → Nat) (f : Nat) (L : List Int) : ordM mk f L 0 = L := by
  cases f <;> simp [ordM]

theorem memN_ne {X : Nat} (h0 : 0 < X) (h7 : X < 128) : memN X ≠ [] := fun h => by
  have := (low_facts X h0 h7).2.2.1
  rw [h] at this
  simp at this

theorem next_facts (mk : Nat → Nat) {X : Nat} (h0 : 0 < X) (h7 : X < 128) : pickL mk (memN X) = some (nextM mk X) ∧ nextM mk X < 7 ∧ X.testBit (nextM mk X) = true ∧ 2 ^ nextM mk X ≤ X ∧ X - 2 ^ nextM mk X < X ∧ popN (X - 2 ^ nextM mk X) < popN X ∧ Sub (2 ^ nextM mk X) X := by
  obtain ⟨b, hb⟩ := pickL_some mk _ (memN_ne h0 h7)
  have hn : nextM mk X = b := by unfold nextM; rw [hb]; rfl
  rw [hn]
  obtain ⟨h1, h2⟩ := mem_memN (pickL_mem mk _ b hb)
  have hs : Sub (2 ^ b) X := fun i hi => by
    rw [Nat.testBit_two_pow] at hi
    obtain rfl := of_decide_eq_true hi
    exact h2
  have hle : 2 ^ b ≤ X := sub_le hs
  have hp : 0 < 2 ^ b := Nat.pow_pos (by decide)
  refine ⟨hb, h1, h2, hle, by omega, pop_lt (by omega) h7 (fun i hi => ((minus_bit h7 hs i).1 hi).1) (by omega), hs⟩

theorem pop_pos {X : Nat} (h0 : 0 < X) (h7 : X < 128) : 0 < popN X := by
  have := memN_ne h0 h7
  unfold popN
  exact List.length_pos_iff.2 this

theorem ordM_congr {mk mk' : List Int → Nat → Nat} (f : Nat) : ∀ (L : List Int) (X : Nat), (∀ k, k < f → ∀ L', L'.length = L.length + k → ∀ a b, mk L' a < mk L' b ↔ mk' L' a < mk' L' b) → ordM mk f L X = ordM mk' f L X := by
  induction f with
  | zero => intro L X _; rfl
  | succ f ih =>
    intro L X h
    unfold ordM
    have h0 := pickL_congr (h 0 (by omega) L (by omega)) (memN X)
    have hn : nextM (mk L) X = nextM (mk' L) X := by unfold nextM; rw [h0]
    rw [hn, ih _ _ fun k hk L' hL' => h (k + 1) (by omega) L' (by simp at hL'; omega)]

/-- How many of the order are neighbours. -/
def cardN (lg L : List Int) (v : Nat) : Nat → Nat
  | 0 => 0
  | i + 1 => cardN lg L v i + (edB lg v (kl L i)).toNat

theorem cardN_le (lg L : List Int) (v : Nat) : ∀ i, cardN lg L v i ≤ i
  | 0 => by simp [cardN]
  | i + 1 => by
    have := cardN_le lg L v i
    have : (edB lg v (kl L i)).toNat ≤ 1 := by cases edB lg v (kl L i) <;> decide
    unfold cardN
    omega

theorem cardN_snoc (lg L : List Int) (x : Int) (v : Nat) : ∀ i, i ≤ L.length → cardN lg (L ++ [x]) v i = cardN lg L v i
  | 0, _ => rfl
  | i + 1, h => by
    unfold cardN
    rw [cardN_snoc lg L x v i (by omega)]
    have : kl (L ++ [x]) i = kl L i := by unfold kl; rw [nth_append_lt _ _ _ (by omega)]
    rw [this]

theorem cardN_more (lg L : List Int) (u v : Nat) : cardN lg (L ++ [(u : Int)]) v (L.length + 1) = cardN lg L v L.length + (edB lg v u).toNat := by
  show cardN lg (L ++ [(u : Int)]) v L.length + _ = _
  rw [cardN_snoc lg L u v L.length (Nat.le_refl _)]
  have : kl (L ++ [(u : Int)]) L.length = u := by unfold kl; rw [nth_append_len]; simp
  rw [this]

theorem or_fresh : ∀ (U : Fin 128) (b : Fin 7), U.1.testBit b.1 = false → U.1 + 2 ^ b.1 = U.1 ||| 2 ^ b.1 ∧ U.1 + 2 ^ b.1 < 128 := by decide +kernel

theorem and_pow (r b : Nat) : r &&& 2 ^ b = if r.testBit b then 2 ^ b else 0 := by
  refine Nat.eq_of_testBit_eq fun i => ?_
  rw [Nat.testBit_and, Nat.testBit_two_pow]
  by_cases h : b = i
  · subst h
    cases hb : r.testBit b <;> simp
  · cases hb : r.testBit b <;> simp [h]

theorem and_add_fresh (r U b : Nat) (hr : r < 128) (hU : U < 128) (hb : b < 7) (h : U.testBit b = false) : popN (r &&& (U + 2 ^ b)) = popN (r &&& U) + (if r.testBit b then 1 else 0) := by
  obtain ⟨h1, -⟩ := or_fresh ⟨U, hU⟩ ⟨b, hb⟩ h
  have h1' : U + 2 ^ b = U ||| 2 ^ b := h1
  rw [h1', Nat.and_or_distrib_left, and_pow]
  have hfr : (r &&& U).testBit b = false := by rw [Nat.testBit_and, h]; simp
  have hlt : r &&& U < 128 := Nat.lt_of_le_of_lt Nat.and_le_right hU
  cases hrb : r.testBit b with
  | false => simp
  | true =>
    obtain ⟨h3, h4⟩ := or_fresh ⟨r &&& U, hlt⟩ ⟨b, hb⟩ hfr
    have h3' : (r &&& U) + 2 ^ b = (r &&& U) ||| 2 ^ b := h3
    simp only [if_true]
    rw [← h3']
    have hb0 : bitAt ((r &&& U : Nat) : Int) b = 0 := by
      rcases bitAt_two ((r &&& U : Nat) : Int) b with h | h
      · exact h
      · rw [bitAt_nat] at h; rw [hfr] at h; cases h
    have := pop_more ((r &&& U : Nat) : Int) b (by omega) (by omega) hb hb0
    have e1 : (((r &&& U : Nat) : Int) + 2 ^ b).toNat = (r &&& U) + 2 ^ b := by
      have : (((r &&& U : Nat) : Int) + 2 ^ b) = (((r &&& U) + 2 ^ b : Nat) : Int) := by push_cast; rfl
      rw [this, Int.toNat_natCast]
    rw [e1, Int.toNat_natCast] at this
    exact this

end Go.Proofs.YtpifgmmmmhenmabDoor
