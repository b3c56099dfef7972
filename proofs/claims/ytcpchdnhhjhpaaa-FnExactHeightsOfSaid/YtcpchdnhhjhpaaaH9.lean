/- HeightsOf: plain facts. -/
import Derived.Test.YtcpchdnhhjhpaaaY17
namespace Go.Proofs.Ytcpchdnhhjhpaaa
set_option linter.unusedVariables false
set_option linter.unusedSimpArgs false
open Go.RowKit

def relS (h : List Int) (v w : Nat) : List Int := h.set w (max (nth h w) (nth h v + 1))

def relW (h : List Int) (v : Nat) (ws : List Nat) : List Int := ws.foldl (fun h w => relS h v w) h

def relV (T : List Int) (h : List Int) : Nat → List Int
  | 0 => h
  | v + 1 => relW (relV T h v) v (memU (nth T v) 7)

def relN (T : List Int) (N : Nat) : Nat → List Int
  | 0 => List.replicate N 0
  | r + 1 => relV T (relN T N r) N

theorem relW_snoc (h : List Int) (v : Nat) (ws : List Nat) (w : Nat) : relW h v (ws ++ [w]) = relS (relW h v ws) v w := by simp [relW]

/-- As many entries, none below zero, none above c. -/
def Bd (N : Nat) (c : Int) (h : List Int) : Prop := h.length = N ∧ ∀ i, 0 ≤ nth h i ∧ nth h i ≤ c

theorem Bd.mono {N : Nat} {c d : Int} {h : List Int} (H : Bd N c h) (hc : c ≤ d) : Bd N d h := ⟨H.1, fun i => ⟨(H.2 i).1, Int.le_trans (H.2 i).2 hc⟩⟩

theorem Bd.rel {N : Nat} {c : Int} {h : List Int} (H : Bd N c h) {v w : Nat} (hw : w < N) : Bd N (c + 1) (relS h v w) := by
  refine ⟨by simp [relS, H.1], fun i => ?_⟩
  unfold relS
  rw [nth_set _ _ _ _ (by rw [H.1]; exact hw)]
  have h1 := H.2 w
  have h2 := H.2 v
  have h3 := H.2 i
  by_cases e : i = w
  · rw [if_pos e]; omega
  · rw [if_neg e]; omega

theorem Bd.zero (N : Nat) : Bd N 0 (List.replicate N 0) := by
  refine ⟨by simp, fun i => ?_⟩
  have : nth (List.replicate N 0) i = 0 := by
    unfold nth
    by_cases h : i < N <;> simp [List.getD, h]
  omega

end Go.Proofs.Ytcpchdnhhjhpaaa
