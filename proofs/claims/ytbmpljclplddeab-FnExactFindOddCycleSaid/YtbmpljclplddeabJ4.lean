/- What the specification's searches for paths and holes find. -/
import Derived.Test.YtbmpljclplddeabJ2
import Derived.Test.YtbmpljclplddeabO1
import Derived.Test.YtbmpljclplddeabP5
namespace Go.Proofs.Ytbmpljclplddeab
set_option linter.unusedVariables false
set_option linter.unusedSimpArgs false
open Go.RowKit

theorem dist_len {n : Int} {lg l : List Int} (h : Dist n lg l) : l.length ≤ lg.length := by
  obtain ⟨s, hs, hS⟩ := h
  obtain ⟨e2, h7⟩ := isS_two hS.1
  obtain ⟨b0, b1, -, -⟩ := setOf_bits l 0 s (by omega) (by omega) hs
  have hp := setOf_pop l 0 s (by omega) (by omega) hs
  have hlt : s.toNat < 2 ^ lg.length := by have := hS.2.2; rw [e2] at this; omega
  have h1 := pop_le h7 hlt
  have h0 : popN ((0 : Int).toNat) = 0 := by decide
  rw [h0] at hp
  omega

theorem all_none_long {n : Int} {lg : List Int} {pat : Nat → Nat → Bool} {k : Nat} (hk : lg.length < k) : allS lg.length (patT n lg pat) k [] = none :=
  allS_none _ _ k [] fun s hs => by
    unfold patT
    rw [decide_eq_false_iff_not]
    intro h
    have := dist_len h.1
    simp at this
    omega

/-- The first list of four with a pattern. -/
theorem fwp_four {n : Int} {lg : List Int} {pat : Nat → Nat → Bool} (hg : IsG n lg) : fwpR n lg pat 4 = firstS (fun c => if patT n lg pat (four lg.length c) then some (four lg.length c) else none) (lg.length * lg.length * lg.length * lg.length) := by
  have h7 := (isS_two hg).2
  rw [← all_four lg.length h7]
  unfold fwpR
  split
  · rfl
  · rename_i h
    have hl := hg.2.2.1
    exact (all_none_long (k := 4) (by
      rcases Nat.lt_or_ge lg.length 4 with h4 | h4
      · exact h4
      · exact absurd ⟨hg, by omega, by omega⟩ h)).symm

/-- Is it a hole? -/
def holT (n : Int) (lg l : List Int) : Bool := decide (4 ≤ l.length ∧ HasPat n lg l (holeP l.length))

def fitC (n : Int) (lg : List Int) (cl : Bool) (N : Nat) (l : List Int) (v : Nat) : Bool := patT n lg pathP (l ++ [(v : Int)]) || (cl && decide (l.length + 1 = N) && holT n lg (l ++ [(v : Int)]))

def endC (n : Int) (lg : List Int) (cl : Bool) (l : List Int) : Bool := !cl || holT n lg l

theorem path_hole {N i j : Nat} (hj : j + 1 < N) : holeP N i j = pathP i j := by
  unfold holeP pathP
  have h1 : ¬ (j + 1 = N) := by omega
  by_cases h : j = i + 1 <;> simp [h] <;> omega

theorem pat_path {n : Int} {lg l : List Int} {N : Nat} (hl : l.length < N) : HasPat n lg l (holeP N) ↔ HasPat n lg l pathP := by
  unfold HasPat
  refine and_congr_right fun _ => ⟨fun h j hj i hi => ?_, fun h j hj i hi => ?_⟩
  · rw [h j hj i hi, path_hole (by omega)]
  · rw [h j hj i hi, path_hole (by omega)]

theorem search_open {n : Int} {lg : List Int} (hg : IsG n lg) (N k : Nat) : srchS lg.length (fitC n lg false N) (endC n lg false) k [] = allS lg.length (patT n lg pathP) k [] :=
  srch_all lg.length (fitC n lg false N) (patT n lg pathP) (endC n lg false) (fun l _ => HasPat n lg l pathP)
    (fun l h => by unfold endC patT; rw [decide_eq_true h]; rfl)
    (fun l k v h hv hf => by
      unfold fitC patT at hf
      simpa using hf)
    (fun l k v h hv hf s hs => by
      unfold patT
      rw [decide_eq_false_iff_not]
      intro hp
      have := pat_prefix s _ hp
      unfold fitC patT at hf
      simp at hf
      exact hf this)
    k [] (pat_nil hg)

theorem search_closed {n : Int} {lg : List Int} (hg : IsG n lg) (N : Nat) (hN : 4 ≤ N) : srchS lg.length (fitC n lg true N) (endC n lg true) N [] = allS lg.length (patT n lg (holeP N)) N [] :=
  srch_all lg.length (fitC n lg true N) (patT n lg (holeP N)) (endC n lg true) (fun l k => l.length + k = N ∧ (0 < k → HasPat n lg l pathP))
    (fun l h => by
      have hl : l.length = N := by have := h.1; omega
      unfold endC patT holT
      rw [hl, Bool.eq_iff_iff]
      simp [hN])
    (fun l k v h hv hf => by
      refine ⟨by have := h.1; simp; omega, fun hk => ?_⟩
      unfold fitC patT at hf
      have h1 : ¬ (l.length + 1 = N) := by have := h.1; omega
      simp [h1] at hf
      exact hf)
    (fun l k v h hv hf s hs => by
      unfold patT
      rw [decide_eq_false_iff_not]
      intro hp
      have h0 := pat_prefix s _ hp
      unfold fitC patT holT at hf
      rcases Nat.eq_zero_or_pos k with hk | hk
      · have hl : l.length + 1 = N := by have := h.1; omega
        have hle : (l ++ [(v : Int)]).length = N := by simp [hl]
        rw [hle] at hf
        simp [hl, hN] at hf
        exact hf.2 h0
      · have hl : (l ++ [(v : Int)]).length < N := by have := h.1; simp; omega
        have h2 := (pat_path hl).1 h0
        simp [h2] at hf)
    N [] ⟨by simp, fun _ => pat_nil hg⟩

/-- The first hole of N, N + d, .. vertices. -/
def holeR (n : Int) (lg : List Int) (d : Nat) : Nat → Nat → Option (List Int)
  | 0, _ => none
  | f + 1, N => match fwpR n lg (holeP N) (N : Int) with
    | some y => some y
    | none => holeR n lg d f (N + d)

theorem holeR_none (n : Int) (lg : List Int) (d : Nat) : ∀ (f N : Nat), ¬ (IsG n lg ∧ (N : Int) ≤ n) → holeR n lg d f N = none
  | 0, _, _ => rfl
  | f + 1, N, h => by
    unfold holeR
    have h1 : fwpR n lg (holeP N) (N : Int) = none := by
      unfold fwpR
      rw [if_neg (fun hh => h ⟨hh.1, hh.2.2⟩)]
    rw [h1]
    exact holeR_none n lg d f (N + d) fun hh => h ⟨hh.1, by omega⟩

end Go.Proofs.Ytbmpljclplddeab
