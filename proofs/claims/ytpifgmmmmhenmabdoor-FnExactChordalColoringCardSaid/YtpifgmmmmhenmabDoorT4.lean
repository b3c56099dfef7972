/- Taking in turn the first that fits: plain facts. -/
import Derived.Test.YtpifgmmmmhenmabDoorZ1
namespace Go.Proofs.YtpifgmmmmhenmabDoor
set_option linter.unusedVariables false
set_option linter.unusedSimpArgs false
open Go.RowKit

/-- The order in which they are taken, while some of X are left; none where nobody fits. -/
def takeO (fit : Nat → Nat → Bool) : Nat → List Int → Nat → Option (List Int)
  | 0, L, _ => some L
  | f + 1, L, X => if X = 0 then some L else match (memN X).find? (fit X) with
    | none => none
    | some v => takeO fit f (L ++ [(v : Int)]) (X - 2 ^ v)

theorem takeO_zero (fit : Nat → Nat → Bool) (f : Nat) (L : List Int) : takeO fit f L 0 = some L := by cases f <;> simp [takeO]

theorem takeO_none {fit : Nat → Nat → Bool} {f : Nat} {L : List Int} {X : Nat} (h0 : 0 < X) (h : (memN X).find? (fit X) = none) : takeO fit (f + 1) L X = none := by
  unfold takeO
  rw [if_neg (by omega), h]

theorem takeO_some {fit : Nat → Nat → Bool} {f : Nat} {L : List Int} {X v : Nat} (h0 : 0 < X) (h : (memN X).find? (fit X) = some v) : takeO fit (f + 1) L X = takeO fit f (L ++ [(v : Int)]) (X - 2 ^ v) := by
  conv => lhs; unfold takeO
  rw [if_neg (by omega), h]

theorem find_prefix {l pre : List Nat} {y : Nat} {p : Nat → Bool} (h : (pre ++ [y]) <+: l) (hn : ∀ x ∈ pre, p x = false) (hy : p y = true) : l.find? p = some y := by
  obtain ⟨t, rfl⟩ := h
  rw [List.find?_append, List.find?_append, List.find?_eq_none.2 (fun x hx => by rw [hn x hx]; decide)]
  simp [hy]

theorem find_none {l : List Nat} {p : Nat → Bool} (hn : ∀ x ∈ l, p x = false) : l.find? p = none := List.find?_eq_none.2 fun x hx => by rw [hn x hx]; decide

/-- The last that is met going down, which is the first going up. -/
def downB (p : Nat → Bool) (N : Nat) : Nat → Option Nat
  | 0 => none
  | d + 1 => if p (N - 1 - d) then some (N - 1 - d) else downB p N d

theorem down_drop (p : Nat → Bool) (N : Nat) : ∀ d, d ≤ N → downB p N d = ((List.range N).drop (N - d)).find? p
  | 0, _ => by
    rw [Nat.sub_zero, List.drop_of_length_le (by simp)]
    rfl
  | d + 1, h => by
    have e : (List.range N).drop (N - (d + 1)) = (N - 1 - d) :: (List.range N).drop (N - d) := by
      rw [List.drop_eq_getElem_cons (by simp; omega)]
      congr 1
      · simp; omega
      · congr 1; omega
    rw [e, List.find?_cons]
    unfold downB
    rw [down_drop p N d (by omega)]
    cases p (N - 1 - d) <;> simp

theorem down_all (p : Nat → Bool) (N : Nat) : downB p N N = (List.range N).find? p := by rw [down_drop p N N (Nat.le_refl _)]; simp

theorem find_mem (X N : Nat) (hN : N ≤ 7) (hX : X < 2 ^ N) (q : Nat → Bool) : (memN X).find? q = (List.range N).find? fun v => X.testBit v && q v := by
  unfold memN
  rw [List.find?_filter]
  have hf : (fun a => decide (X.testBit a = true ∧ q a = true)) = fun v => X.testBit v && q v := by
    funext a
    cases X.testBit a <;> cases q a <;> rfl
  rw [hf]
  obtain ⟨d, hd⟩ : ∃ d, 7 = N + d := ⟨7 - N, by omega⟩
  have e : List.range 7 = List.range N ++ (List.range d).map (N + ·) := by rw [hd]; exact List.range_add
  rw [e, List.find?_append]
  have : ((List.range d).map (N + ·)).find? (fun v => X.testBit v && q v) = none := by
    refine List.find?_eq_none.2 fun x hx => ?_
    obtain ⟨i, -, rfl⟩ := List.mem_map.1 hx
    have : X.testBit (N + i) = false := by
      cases h : X.testBit (N + i) with
      | false => rfl
      | true => have := bit_lt hX h; omega
    rw [this]; simp
  rw [this]
  simp

theorem find_facts {X v : Nat} {q : Nat → Bool} (hX : X < 128) (h : (memN X).find? q = some v) : v < 7 ∧ X.testBit v = true ∧ q v = true ∧ 2 ^ v ≤ X ∧ popN (X - 2 ^ v) < popN X ∧ Sub (2 ^ v) X := by
  have hm := List.mem_of_find?_eq_some h
  obtain ⟨h1, h2⟩ := mem_memN hm
  have hs : Sub (2 ^ v) X := fun i hi => by
    rw [Nat.testBit_two_pow] at hi
    obtain rfl := of_decide_eq_true hi
    exact h2
  have hle : 2 ^ v ≤ X := sub_le hs
  have hp : 0 < 2 ^ v := Nat.pow_pos (by decide)
  exact ⟨h1, h2, List.find?_some h, hle, pop_lt (by omega) hX (fun i hi => ((minus_bit hX hs i).1 hi).1) (by omega), hs⟩

/-- As many are taken as there were. -/
theorem takeO_len {fit : Nat → Nat → Bool} : ∀ (f : Nat) (L : List Int) (X : Nat), X < 128 → ∀ M, takeO fit f L X = some M → M.length ≤ L.length + f
  | 0, L, X, _, M, h => by
    unfold takeO at h
    cases h; omega
  | f + 1, L, X, hX, M, h => by
    unfold takeO at h
    split at h
    · cases h; omega
    · split at h
      · cases h
      · rename_i v hv
        have := takeO_len f (L ++ [(v : Int)]) (X - 2 ^ v) (Nat.lt_of_le_of_lt (Nat.sub_le _ _) hX) M h
        simp at this
        omega

end Go.Proofs.YtpifgmmmmhenmabDoor
