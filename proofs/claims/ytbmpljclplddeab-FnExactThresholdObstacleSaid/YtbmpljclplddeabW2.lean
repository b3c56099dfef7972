/- The least of several firsts. -/
import Derived.Test.YtbmpljclplddeabW1
import Derived.Test.YtbmpljclplddeabJ4
import Derived.Test.YtbmpljclplddeabM16
namespace Go.Proofs.Ytbmpljclplddeab
set_option linter.unusedVariables false
set_option linter.unusedSimpArgs false
open Go.RowKit

def pickS (m : Nat) (p : Nat → Bool) : Option (List Int) := firstS (fun c => if p c then some (four m c) else none) (m * m * m * m)

theorem pickK {m : Nat} {p : Nat → Bool} {k : Nat} {y : List Int} (h : firstS (fun c => if p c then some (four m c) else none) k = some y) : ∃ c, c < k ∧ p c = true ∧ y = four m c ∧ ∀ u, u < c → p u = false := by
  induction k with
  | zero => cases h
  | succ k ih =>
    rw [firstS_succ] at h
    cases hk : firstS (fun c => if p c then some (four m c) else none) k with
    | some z =>
      rw [hk] at h
      obtain ⟨c, h1, h2⟩ := ih (hk.trans h)
      exact ⟨c, by omega, h2⟩
    | none =>
      rw [hk] at h
      cases hp : p k with
      | false => simp [hp] at h
      | true =>
        simp [hp] at h
        refine ⟨k, by omega, hp, h.symm, fun u hu => ?_⟩
        have := firstS_none.1 hk u hu
        cases hu' : p u with
        | false => rfl
        | true => simp [hu'] at this

theorem pick_none {m : Nat} {p : Nat → Bool} (h : pickS m p = none) {u : Nat} (hu : u < m * m * m * m) : p u = false := by
  have := firstS_none.1 h u hu
  cases hp : p u with
  | false => rfl
  | true => simp [hp] at this

theorem pick_hit {m : Nat} {p : Nat → Bool} {c : Nat} (hc : c < m * m * m * m) (hp : p c = true) (hu : ∀ u, u < c → p u = false) : pickS m p = some (four m c) :=
  firstS_hit hc (fun u h => by simp [hu u h]) (by simp [hp])

theorem pick_congr {m : Nat} {p q : Nat → Bool} (h : ∀ u, u < m * m * m * m → p u = q u) : pickS m p = pickS m q :=
  firstS_congr fun u hu => by simp [h u hu]

theorem lex4 (a0 a1 a2 a3 b0 b1 b2 b3 : Int) : lexLt [a0, a1, a2, a3] [b0, b1, b2, b3] ↔ a0 < b0 ∨ (a0 = b0 ∧ (a1 < b1 ∨ (a1 = b1 ∧ (a2 < b2 ∨ (a2 = b2 ∧ a3 < b3))))) := by
  constructor
  · rintro ⟨k, hk, he, hl⟩
    simp at hk
    have q0 : 0 < k → a0 = b0 := fun h => by have := he 0 h; simpa [nth] using this
    have q1 : 1 < k → a1 = b1 := fun h => by have := he 1 h; simpa [nth] using this
    have q2 : 2 < k → a2 = b2 := fun h => by have := he 2 h; simpa [nth] using this
    have : k = 0 ∨ k = 1 ∨ k = 2 ∨ k = 3 := by omega
    rcases this with rfl | rfl | rfl | rfl <;> simp [nth] at hl <;> omega
  · rintro (h | ⟨h0, h | ⟨h1, h | ⟨h2, h⟩⟩⟩)
    · exact ⟨0, by simp, fun j hj => absurd hj (by omega), by simpa [nth] using h⟩
    · refine ⟨1, by simp, fun j hj => ?_, by simpa [nth] using h⟩
      obtain rfl : j = 0 := by omega
      simpa [nth] using h0
    · refine ⟨2, by simp, fun j hj => ?_, by simpa [nth] using h⟩
      have : j = 0 ∨ j = 1 := by omega
      rcases this with rfl | rfl
      · simpa [nth] using h0
      · simpa [nth] using h1
    · refine ⟨3, by simp, fun j hj => ?_, by simpa [nth] using h⟩
      have : j = 0 ∨ j = 1 ∨ j = 2 := by omega
      rcases this with rfl | rfl | rfl
      · simpa [nth] using h0
      · simpa [nth] using h1
      · simpa [nth] using h2

theorem dig_lt (m c d : Nat) (hm : 0 < m) : c < d ↔ c / m < d / m ∨ (c / m = d / m ∧ c % m < d % m) := by
  have e1 := Nat.div_add_mod c m
  have e2 := Nat.div_add_mod d m
  constructor
  · intro h
    have h1 : c / m ≤ d / m := Nat.div_le_div_right (Nat.le_of_lt h)
    rcases Nat.lt_or_ge (c / m) (d / m) with h2 | h2
    · exact .inl h2
    · have h3 : c / m = d / m := Nat.le_antisymm h1 h2
      rw [h3] at e1
      exact .inr ⟨h3, by omega⟩
  · rintro (h | ⟨h, h'⟩)
    · rcases Nat.lt_or_ge c d with h2 | h2
      · exact h2
      · exact absurd (Nat.div_le_div_right (c := m) h2) (by omega)
    · rw [h] at e1
      omega

theorem dig_eq (m c d : Nat) : c = d ↔ c / m = d / m ∧ c % m = d % m := by
  have e1 := Nat.div_add_mod c m
  have e2 := Nat.div_add_mod d m
  constructor
  · rintro rfl; exact ⟨rfl, rfl⟩
  · rintro ⟨h, h'⟩
    rw [h, h'] at e1
    omega

theorem lex_four (m c d : Nat) (hm : 0 < m) : lexLt (four m c) (four m d) ↔ c < d := by
  have e3 : ∀ x : Nat, x / (m * m * m) = x / m / m / m := fun x => by rw [Nat.div_div_eq_div_mul, Nat.div_div_eq_div_mul, Nat.mul_assoc]
  have e2 : ∀ x : Nat, x / (m * m) = x / m / m := fun x => by rw [Nat.div_div_eq_div_mul]
  unfold four
  rw [lex4, e3, e3, e2, e2]
  have s1 := dig_lt m c d hm
  have s2 := dig_lt m (c / m) (d / m) hm
  have s3 := dig_lt m (c / m / m) (d / m / m) hm
  have t2 := dig_eq m (c / m) (d / m)
  have t3 := dig_eq m (c / m / m) (d / m / m)
  rw [s1, s2, s3, t2, t3]
  simp only [Int.ofNat_lt, Int.ofNat_inj]
  generalize c / m / m / m = a0
  generalize d / m / m / m = b0
  generalize c / m / m % m = a1
  generalize d / m / m % m = b1
  generalize c / m % m = a2
  generalize d / m % m = b2
  generalize c % m = a3
  generalize d % m = b3
  omega

/-- What one more candidate makes of the least so far. -/
noncomputable def combS (R F : Option (List Int)) : Option (List Int) :=
  match F, R with
  | none, R => R
  | some b, none => some b
  | some b, some a => open Classical in if lexLt b a then some b else some a

noncomputable def combN (G : Nat → Option (List Int)) : Nat → Option (List Int)
  | 0 => none
  | i + 1 => combS (combN G i) (G i)

theorem comb_pick (m : Nat) (p q : Nat → Bool) : combS (pickS m p) (pickS m q) = pickS m (fun c => p c || q c) := by
  cases hq : pickS m q with
  | none =>
    show pickS m p = _
    exact pick_congr fun u hu => by rw [pick_none hq hu]; simp
  | some b =>
    cases hp : pickS m p with
    | none =>
      show some b = _
      rw [← hq]
      exact pick_congr fun u hu => by rw [pick_none hp hu]; simp
    | some a =>
      obtain ⟨d, hd, hqd, rfl, hdl⟩ := pickK hq
      obtain ⟨c, hc, hpc, rfl, hcl⟩ := pickK hp
      have hm : 0 < m := by rcases Nat.eq_zero_or_pos m with rfl | h; exact absurd hc (by simp); exact h
      show (open Classical in if lexLt (four m d) (four m c) then some (four m d) else some (four m c)) = _
      by_cases h : lexLt (four m d) (four m c)
      · rw [if_pos h]
        have h' := (lex_four m d c hm).1 h
        exact (pick_hit hd (by simp [hqd]) fun u hu => by rw [hcl u (by omega), hdl u hu]; rfl).symm
      · rw [if_neg h]
        have h' : ¬ d < c := fun hh => h ((lex_four m d c hm).2 hh)
        exact (pick_hit hc (by simp [hpc]) fun u hu => by rw [hcl u hu, hdl u (by omega)]; rfl).symm

/-- The patterns of the obstacles. -/
def thrPat : Nat → Nat → Nat → Bool
  | 0 => twoP
  | 1 => holeP 4
  | _ => pathP

/-- The first list of four that is an obstacle. -/
def thrR (n : Int) (lg : List Int) : Option (List Int) := if IsG n lg then pickS lg.length (fun c => decide (thrObP n lg (four lg.length c))) else none

theorem fwp_no {n : Int} {lg : List Int} {pat : Nat → Nat → Bool} {k : Int} (h : ¬ IsG n lg) : fwpR n lg pat k = none := by
  unfold fwpR
  rw [if_neg (fun h' => h h'.1)]

theorem fwp_pick {n : Int} {lg : List Int} {pat : Nat → Nat → Bool} (h : IsG n lg) : fwpR n lg pat 4 = pickS lg.length (fun c => patT n lg pat (four lg.length c)) := fwp_four h

theorem thr_comb (n : Int) (lg : List Int) : combN (fun i => fwpR n lg (thrPat i) 4) 3 = thrR n lg := by
  show combS (combS (combS none (fwpR n lg twoP 4)) (fwpR n lg (holeP 4) 4)) (fwpR n lg pathP 4) = _
  unfold thrR
  by_cases h : IsG n lg
  · rw [if_pos h, fwp_pick h, fwp_pick h, fwp_pick h]
    have h0 : (none : Option (List Int)) = pickS lg.length (fun _ => false) := (firstS_none.2 fun u _ => by simp).symm
    rw [h0, comb_pick, comb_pick, comb_pick]
    refine pick_congr fun u hu => ?_
    have hT : thrObP n lg (four lg.length u) ↔ HasPat n lg (four lg.length u) twoP ∨ HasPat n lg (four lg.length u) (holeP 4) ∨ HasPat n lg (four lg.length u) pathP := by
      have hl : (four lg.length u).length = 4 := rfl
      unfold thrObP
      rw [hl]
      simp
    unfold patT
    by_cases h1 : HasPat n lg (four lg.length u) twoP <;> by_cases h2 : HasPat n lg (four lg.length u) (holeP 4) <;> by_cases h3 : HasPat n lg (four lg.length u) pathP <;> simp [hT, h1, h2, h3]
  · rw [if_neg h, fwp_no h, fwp_no h, fwp_no h]
    rfl

theorem fwp_four_len {n : Int} {lg : List Int} {pat : Nat → Nat → Bool} {y : List Int} (h : fwpR n lg pat 4 = some y) : y.length = 4 := by
  by_cases hg : IsG n lg
  · rw [fwp_pick hg] at h
    obtain ⟨c, -, -, rfl, -⟩ := pickK h
    rfl
  · rw [fwp_no hg] at h
    cases h

theorem comb_len {G : Nat → Option (List Int)} (hG : ∀ i y, G i = some y → y.length = 4) : ∀ (i : Nat) (y : List Int), combN G i = some y → y.length = 4
  | 0, y, h => by cases h
  | i + 1, y, h => by
    have ih := comb_len hG i
    have hg := hG i
    unfold combN combS at h
    cases hF : G i with
    | none => rw [hF] at h; exact ih y h
    | some b =>
      rw [hF] at h
      cases hR : combN G i with
      | none => rw [hR] at h; obtain rfl := Option.some.inj h; exact hg _ hF
      | some a =>
        rw [hR] at h
        dsimp only at h
        split at h
        · obtain rfl := Option.some.inj h; exact hg _ hF
        · obtain rfl := Option.some.inj h; exact ih _ hR

end Go.Proofs.Ytbmpljclplddeab
