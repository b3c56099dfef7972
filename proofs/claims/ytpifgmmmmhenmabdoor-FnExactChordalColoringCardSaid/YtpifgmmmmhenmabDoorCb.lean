/- A coloring in an order: plain facts. -/
import Derived.Test.YtpifgmmmmhenmabDoorV5
import Derived.Test.YtpifgmmmmhenmabDoorM1
namespace Go.Proofs.YtpifgmmmmhenmabDoor
set_option linter.unusedVariables false
set_option linter.unusedSimpArgs false
open Go.RowKit

/-- The least number that is not in a set. -/
def mexN (u : Nat) : Nat := ((List.range 8).filter fun k => !u.testBit k).headD 7

theorem mex_facts (u : Nat) (h : u < 128) : mexN u ≤ 7 ∧ u.testBit (mexN u) = false ∧ ∀ k, k < mexN u → u.testBit k = true := by
  have h' : ∀ u : Fin 128, mexN u.val ≤ 7 ∧ u.val.testBit (mexN u.val) = false ∧ ∀ k : Fin 7, k.val < mexN u.val → u.val.testBit k.val = true := by decide +kernel
  obtain ⟨a, b, c⟩ := h' ⟨u, h⟩
  have a' : mexN u ≤ 7 := a
  exact ⟨a, b, fun k hk => c ⟨k, by omega⟩ hk⟩

theorem mex_le (u i : Nat) (h : u < 2 ^ i) (hi : i ≤ 7) : mexN u ≤ i := by
  have h' : ∀ (i : Fin 8) (u : Fin 128), u.val < 2 ^ i.val → mexN u.val ≤ i.val := by decide +kernel
  exact h' ⟨i, by omega⟩ ⟨u, Nat.lt_of_lt_of_le h (by have := Nat.pow_le_pow_right (n := 2) (by decide) hi; simpa using this)⟩ h

/-- The colors of the vertices vs. -/
def usdF (C : List Int) (a : Nat) (vs : List Nat) : Nat := vs.foldl (fun a w => a ||| 2 ^ (nth C w).toNat) a

theorem usdF_snoc (C : List Int) (a : Nat) (vs : List Nat) (v : Nat) : usdF C a (vs ++ [v]) = usdF C a vs ||| 2 ^ (nth C v).toNat := by simp [usdF]

theorem usdF_lt (C : List Int) (i : Nat) : ∀ (vs : List Nat) (a : Nat), a < 2 ^ i → (∀ v ∈ vs, (nth C v).toNat < i) → usdF C a vs < 2 ^ i
  | [], a, ha, _ => ha
  | v :: t, a, ha, h => by
    show usdF C (a ||| 2 ^ (nth C v).toNat) t < 2 ^ i
    exact usdF_lt C i t _ (Nat.or_lt_two_pow ha (Nat.pow_lt_pow_right (by decide) (h v (by simp)))) fun u hu => h u (by simp [hu])

def usdN (C : List Int) (X : Nat) : Nat := usdF C 0 (memN X)

/-- After i vertices: the colors, 0 where none is; the set of the colored. -/
def cS (l o : List Int) : Nat → List Int × Nat
  | 0 => (List.replicate l.length 0, 0)
  | i + 1 => let s := cS l o i; (s.1.set (kl o i) (mexN (usdN s.1 (rowN l (kl o i) &&& s.2)) : Nat), s.2 ||| 2 ^ kl o i)

def colR (n : Int) (l o : List Int) : List Int := if OrdP n l o then (cS l o o.length).1 else []

theorem cS_length (l o : List Int) : ∀ i, (cS l o i).1.length = l.length
  | 0 => by simp [cS]
  | i + 1 => by simp [cS, cS_length l o i]

theorem colR_length (n : Int) (l o : List Int) : (colR n l o).length ≤ 7 := by
  unfold colR
  split
  · rename_i h; rw [cS_length]; exact h.len.2.1
  · simp

theorem nth_mapR (f : Nat → Int) {N j : Nat} (h : j < N) : nth ((List.range N).map f) j = f j := by
  simp [nth, List.getD, List.getElem?_map, List.getElem?_range h]

/-- The colors as the specification keeps them: -1 where none is. -/
def specO (N : Nat) (C : List Int) (K : Nat) : List Int := (List.range N).map fun j => if K.testBit j then nth C j else -1

theorem specO_length (N : Nat) (C : List Int) (K : Nat) : (specO N C K).length = N := by simp [specO]

theorem specO_at (N : Nat) (C : List Int) (K : Nat) {j : Nat} (h : j < N) : nth (specO N C K) j = if K.testBit j then nth C j else -1 := nth_mapR _ h

theorem specO_set {N : Nat} {C : List Int} (hC : C.length = N) (K : Nat) {v : Nat} (hv : v < N) (c : Int) : (specO N C K).set v c = specO N (C.set v c) (K ||| 2 ^ v) := by
  refine list_ext_nth (by simp [specO]) fun j hj => ?_
  have hj' : j < N := by simpa [specO] using hj
  rw [nth_set _ _ _ _ (by rw [specO_length]; exact hv), specO_at N C K hj', specO_at N _ _ hj', nth_set _ _ _ _ (by omega), Nat.testBit_or, Nat.testBit_two_pow]
  by_cases h : j = v
  · subst h; simp
  · have h2 : ¬ v = j := fun e => h e.symm
    simp [h, h2]

theorem specO_zero (N : Nat) : specO N (List.replicate N 0) 0 = List.replicate N (-1) := by
  refine list_ext_nth (by simp [specO]) fun j hj => ?_
  have hj' : j < N := by simpa [specO] using hj
  rw [specO_at N _ _ hj']
  simp [nth, List.getD, hj']

structure ColI (l o : List Int) (i : Nat) (C : List Int) (K : Nat) : Prop where
  len : C.length = l.length
  lt : K < 2 ^ l.length
  mem : ∀ v, K.testBit v = true ↔ ∃ j, j < i ∧ kl o j = v
  col : ∀ v, K.testBit v = true → 0 ≤ nth C v ∧ nth C v < i
  zero : ∀ v, K.testBit v = false → nth C v = 0

theorem ColI.used {l o : List Int} {i : Nat} {C : List Int} {K : Nat} (h : ColI l o i C K) (X : Nat) : usdN C (X &&& K) < 2 ^ i := by
  refine usdF_lt C i _ 0 (Nat.pow_pos (by decide)) fun v hv => ?_
  have hb := (mem_memN hv).2
  rw [Nat.testBit_and] at hb
  simp at hb
  have := h.col v hb.2
  omega

theorem cS_inv {n : Int} {l o : List Int} (h : OrdP n l o) : ∀ i, i ≤ o.length → ColI l o i (cS l o i).1 (cS l o i).2
  | 0, _ => ⟨by simp [cS], Nat.pow_pos (by decide), fun v => by simp [cS], fun v hv => by simp [cS] at hv, fun v _ => by
      simp only [cS, nth, List.getD, List.getElem?_replicate]
      split <;> rfl⟩
  | i + 1, hi => by
    have ih := cS_inv h i (by omega)
    obtain ⟨a1, a2, a3⟩ := h.1.at (show i < o.length by omega)
    have hl := h.len
    obtain ⟨s, hs⟩ : ∃ s, s = cS l o i := ⟨_, rfl⟩
    rw [← hs] at ih
    obtain ⟨v, hv⟩ : ∃ v, v = kl o i := ⟨_, rfl⟩
    obtain ⟨c, hc⟩ : ∃ c, c = mexN (usdN s.1 (rowN l v &&& s.2)) := ⟨_, rfl⟩
    have hci : c ≤ i := by rw [hc]; exact mex_le _ _ (ih.used _) (by omega)
    have e : cS l o (i + 1) = (s.1.set v (c : Int), s.2 ||| 2 ^ v) := by
      show ((cS l o i).1.set (kl o i) _, _) = _
      rw [← hs, ← hv, hc]
    rw [e]
    rw [← hv] at a2
    have hbit : ∀ u, (s.2 ||| 2 ^ v).testBit u = true ↔ s.2.testBit u = true ∨ u = v := fun u => by
      rw [Nat.testBit_or, Nat.testBit_two_pow]
      simp
      constructor
      · rintro (h | h)
        · exact .inl h
        · exact .inr h.symm
      · rintro (h | h)
        · exact .inl h
        · exact .inr h.symm
    refine ⟨by simp [ih.len], Nat.or_lt_two_pow ih.lt (Nat.pow_lt_pow_right (by decide) a2), fun u => ?_, fun u hu => ?_, fun u hu => ?_⟩
    · rw [hbit, ih.mem]
      constructor
      · rintro (⟨j, hj, hk⟩ | rfl)
        · exact ⟨j, by omega, hk⟩
        · exact ⟨i, by omega, hv.symm⟩
      · rintro ⟨j, hj, hk⟩
        rcases Nat.lt_or_ge j i with h' | h'
        · exact .inl ⟨j, h', hk⟩
        · obtain rfl : j = i := by omega
          exact .inr (by rw [hv]; exact hk.symm)
    · show 0 ≤ nth (s.1.set v (c : Int)) u ∧ nth (s.1.set v (c : Int)) u < _
      rw [nth_set _ _ _ _ (by rw [ih.len]; exact a2)]
      split
      · omega
      · rename_i hne
        rcases (hbit u).1 hu with h' | h'
        · have := ih.col u h'
          omega
        · exact absurd h' hne
    · show nth (s.1.set v (c : Int)) u = 0
      have h1 : s.2.testBit u = false ∧ u ≠ v := by
        constructor
        · cases hb : s.2.testBit u with
          | false => rfl
          | true => rw [(hbit u).2 (.inl hb)] at hu; cases hu
        · intro e; rw [(hbit u).2 (.inr e)] at hu; cases hu
      rw [nth_set _ _ _ _ (by rw [ih.len]; exact a2), if_neg h1.2]
      exact ih.zero u h1.1

/-- At the end every vertex is colored. -/
theorem specO_last {n : Int} {l o : List Int} (h : OrdP n l o) : specO l.length (cS l o o.length).1 (cS l o o.length).2 = (cS l o o.length).1 := by
  have hI := cS_inv h o.length (Nat.le_refl _)
  refine list_ext_nth (by rw [specO_length, hI.len]) fun j hj => ?_
  rw [specO_length] at hj
  rw [specO_at _ _ _ hj, if_pos]
  obtain ⟨i, hi, he⟩ := h.surj hj
  exact (hI.mem j).2 ⟨i, hi, he⟩

theorem colR_is {n : Int} {l o : List Int} (h : OrdP n l o) : colR n l o = (cS l o o.length).1 := if_pos h

theorem colR_no {n : Int} {l o : List Int} (h : ¬ OrdP n l o) : colR n l o = [] := if_neg h

end Go.Proofs.YtpifgmmmmhenmabDoor
