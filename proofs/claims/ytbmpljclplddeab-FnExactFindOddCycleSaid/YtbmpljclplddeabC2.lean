/- Odd cycles: a shortest one has no chord. -/
import Derived.Test.YtbmpljclplddeabM15
import Derived.Test.YtbmpljclplddeabJ4
namespace Go.Proofs.Ytbmpljclplddeab
set_option linter.unusedVariables false
set_option linter.unusedSimpArgs false
open Go.RowKit

theorem dist_of {n : Int} {lg : List Int} (hg : IsG n lg) (f : Nat → Nat) : ∀ K : Nat, (∀ t, t < K → f t < lg.length) → (∀ s t, s < K → t < K → f s = f t → s = t) → Dist n lg ((List.range K).map fun t => (f t : Int))
  | 0, _, _ => (pat_nil (pat := pathP) hg).1
  | K + 1, h, hi => by
    rw [List.range_succ, List.map_append]
    refine (dist_snoc hg (h K (by omega))).2 ⟨dist_of hg f K (fun t ht => h t (by omega)) (fun s t hs ht => hi s t (by omega) (by omega)), fun i hil he => ?_⟩
    have hiK : i < K := by simpa using hil
    have e : kl ((List.range K).map fun t => (f t : Int)) i = f i := by simp [kl, nth, hiK]
    rw [e] at he
    have := hi i K (by omega) (by omega) he
    omega

theorem odd_sub {n : Int} {lg : List Int} (hg : IsG n lg) (f : Nat → Nat) (K : Nat) (h3 : 3 ≤ K) (ho : K % 2 = 1) (hr : ∀ t, t < K → f t < lg.length) (hi : ∀ s t, s < K → t < K → f s = f t → s = t) (he : ∀ t, t < K → edB lg (f t) (f ((t + 1) % K)) = true) :
    OddP n lg ((List.range K).map fun t => (f t : Int)) := by
  have e : ∀ t, t < K → kl ((List.range K).map fun t => (f t : Int)) t = f t := fun t ht => by simp [kl, nth, ht]
  have hl : ((List.range K).map fun t => (f t : Int)).length = K := by simp
  refine ⟨dist_of hg f K hr hi, by omega, by omega, fun t ht => ?_⟩
  rw [hl] at ht ⊢
  rw [e t ht, e _ (Nat.mod_lt _ (by omega))]
  exact he t ht

theorem ed_sym {n : Int} {lg : List Int} (hg : IsG n lg) {i j : Nat} (hi : i < lg.length) (hj : j < lg.length) : edB lg i j = edB lg j i := by
  unfold edB; rw [hg.sym hi hj]

theorem no_chord {n : Int} {lg l : List Int} (h : OddP n lg l) (hmin : ∀ l', OddP n lg l' → l.length ≤ l'.length) {i j : Nat} (hij : i + 2 ≤ j) (hj : j < l.length) (hnw : ¬ (i = 0 ∧ j + 1 = l.length)) : edB lg (kl l i) (kl l j) = false := by
  cases hc : edB lg (kl l i) (kl l j) with
  | false => rfl
  | true =>
    exfalso
    have hg := h.1.graph
    obtain ⟨hD, h3, ho, hE⟩ := h
    have hin : ∀ t, t < l.length → kl l t < lg.length := fun t ht => (hD.at ht).2.1
    have hstep : ∀ t, t + 1 < l.length → edB lg (kl l t) (kl l (t + 1)) = true := fun t ht => by
      have := hE t (by omega)
      rwa [Nat.mod_eq_of_lt ht] at this
    have hlast : edB lg (kl l (l.length - 1)) (kl l 0) = true := by
      have := hE (l.length - 1) (by omega)
      rwa [show l.length - 1 + 1 = l.length by omega, Nat.mod_self] at this
    have hback : edB lg (kl l j) (kl l i) = true := by rw [ed_sym hg (hin j hj) (hin i (by omega))]; exact hc
    by_cases hp : (j - i + 1) % 2 = 1
    · have hO := odd_sub hg (fun t => kl l (i + t)) (j - i + 1) (by omega) hp (fun t ht => hin _ (by omega)) (fun s t hs ht he => by
        have := hD.inj (i := i + s) (j := i + t) (by omega) (by omega) he
        omega) (fun t ht => by
        show edB lg (kl l (i + t)) (kl l (i + (t + 1) % (j - i + 1))) = true
        rcases Nat.lt_or_ge (t + 1) (j - i + 1) with h' | h'
        · rw [Nat.mod_eq_of_lt h']
          exact hstep (i + t) (by omega)
        · rw [show t + 1 = j - i + 1 by omega, Nat.mod_self, show i + t = j by omega]
          exact hback)
      have := hmin _ hO
      simp at this
      omega
    · have hO := odd_sub hg (fun t => kl l (if t ≤ i then t else t + (j - i) - 1)) (l.length - (j - i) + 1) (by omega) (by omega) (fun t ht => by
        show kl l (if t ≤ i then t else t + (j - i) - 1) < lg.length
        exact hin _ (by split <;> omega)) (fun s t hs ht he => by
        have := hD.inj (i := if s ≤ i then s else s + (j - i) - 1) (j := if t ≤ i then t else t + (j - i) - 1) (by split <;> omega) (by split <;> omega) he
        split at this <;> split at this <;> omega) (fun t ht => by
        show edB lg (kl l (if t ≤ i then t else t + (j - i) - 1)) (kl l (if (t + 1) % (l.length - (j - i) + 1) ≤ i then (t + 1) % (l.length - (j - i) + 1) else (t + 1) % (l.length - (j - i) + 1) + (j - i) - 1)) = true
        rcases Nat.lt_or_ge (t + 1) (l.length - (j - i) + 1) with h' | h'
        · rw [Nat.mod_eq_of_lt h']
          rcases Nat.lt_trichotomy t i with h1 | h1 | h1
          · rw [if_pos (by omega), if_pos (by omega)]
            exact hstep t (by omega)
          · subst h1
            rw [if_pos (by omega), if_neg (by omega), show t + 1 + (j - t) - 1 = j by omega]
            exact hc
          · rw [if_neg (by omega), if_neg (by omega), show t + 1 + (j - i) - 1 = (t + (j - i) - 1) + 1 by omega]
            exact hstep _ (by omega)
        · rw [show t + 1 = l.length - (j - i) + 1 by omega, Nat.mod_self, if_neg (by omega), if_pos (by omega), show t + (j - i) - 1 = l.length - 1 by omega]
          exact hlast)
      have := hmin _ hO
      simp at this
      omega

theorem odd_pat {n : Int} {lg l : List Int} (h : OddP n lg l) (hmin : ∀ l', OddP n lg l' → l.length ≤ l'.length) : HasPat n lg l (holeP l.length) := by
  refine ⟨h.1, fun j hj i hij => ?_⟩
  have hg := h.1.graph
  by_cases h1 : j = i + 1
  · subst h1
    have := h.2.2.2 i (by omega)
    rw [Nat.mod_eq_of_lt hj] at this
    rw [this]
    simp [holeP]
  · by_cases h2 : i = 0 ∧ j + 1 = l.length
    · have := h.2.2.2 j hj
      rw [h2.2, Nat.mod_self] at this
      rw [h2.1, ed_sym hg (h.1.at (by omega)).2.1 (h.1.at hj).2.1, this]
      simp [holeP, h2.2]
    · rw [no_chord h hmin (by omega) hj h2]
      symm
      simp only [holeP, Bool.or_eq_false_iff, Bool.and_eq_false_iff, decide_eq_false_iff_not]
      refine ⟨h1, ?_⟩
      by_cases h3 : i = 0
      · exact .inr fun h4 => h2 ⟨h3, h4⟩
      · exact .inl h3

theorem pat_odd {n : Int} {lg l : List Int} (h : HasPat n lg l (holeP l.length)) (h3 : 3 ≤ l.length) (ho : l.length % 2 = 1) : OddP n lg l := by
  refine ⟨h.1, h3, ho, fun i hi => ?_⟩
  have hg := h.1.graph
  rcases Nat.lt_or_ge (i + 1) l.length with h1 | h1
  · rw [Nat.mod_eq_of_lt h1, h.2 (i + 1) h1 i (by omega)]
    simp [holeP]
  · rw [show i + 1 = l.length by omega, Nat.mod_self, ed_sym hg (h.1.at hi).2.1 (h.1.at (by omega)).2.1, h.2 i hi 0 (by omega)]
    have : i + 1 = l.length := by omega
    simp [holeP, this]

theorem allS_congr (m : Nat) {T T' : List Int → Bool} : ∀ (k : Nat) (l : List Int), (∀ s : List Int, s.length = k → T (l ++ s) = T' (l ++ s)) → allS m T k l = allS m T' k l
  | 0, l, h => by
    have := h [] rfl
    rw [List.append_nil] at this
    simp [allS, this]
  | k + 1, l, h => by
    unfold allS
    exact firstS_congr fun u _ => allS_congr m k _ fun s hs => by
      rw [List.append_assoc]
      exact h _ (by simp [hs])

theorem allS_no {m : Nat} {T : List Int → Bool} : ∀ (k : Nat) (l : List Int), allS m T k l = none → ∀ s : List Int, s.length = k → (∀ x ∈ s, ∃ v : Nat, v < m ∧ x = (v : Int)) → T (l ++ s) = false
  | 0, l, h, s, hs, _ => by
    obtain rfl := List.length_eq_zero_iff.1 hs
    rw [List.append_nil]
    unfold allS at h
    cases hT : T l with
    | false => rfl
    | true => simp [hT] at h
  | k + 1, l, h, x :: s, hs, hx => by
    unfold allS at h
    obtain ⟨v, hv, rfl⟩ := hx x (by simp)
    have h1 := firstS_none.1 h v hv
    have := allS_no k _ h1 s (by simpa using hs) fun y hy => hx y (by simp [hy])
    rwa [List.append_assoc] at this

def oddT (n : Int) (lg l : List Int) : Bool := decide (OddP n lg l)

theorem all_odd {n : Int} {lg : List Int} (N : Nat) (h3 : 3 ≤ N) (ho : N % 2 = 1) (hmin : ∀ l', OddP n lg l' → N ≤ l'.length) : allS lg.length (oddT n lg) N [] = allS lg.length (patT n lg (holeP N)) N [] := by
  refine allS_congr _ N [] fun s hs => ?_
  rw [List.nil_append]
  subst hs
  unfold oddT patT
  by_cases h : OddP n lg s
  · rw [decide_eq_true h, decide_eq_true (odd_pat h hmin)]
  · rw [decide_eq_false h, decide_eq_false (fun h' => h (pat_odd h' h3 ho))]

/-- The first odd cycle of N vertices, or of two more, .. -/
def cycR (n : Int) (lg : List Int) : Nat → Nat → Option (List Int)
  | 0, _ => none
  | f + 1, N => match allS lg.length (oddT n lg) N [] with
    | some y => some y
    | none => cycR n lg f (N + 2)

theorem cyc_hole {n : Int} {lg : List Int} (hg : IsG n lg) : ∀ (f N : Nat), 3 ≤ N → N % 2 = 1 → (∀ l', OddP n lg l' → N ≤ l'.length) → holeR n lg 2 f N = cycR n lg f N
  | 0, _, _, _, _ => rfl
  | f + 1, N, h3, ho, hmin => by
    have e : fwpR n lg (holeP N) (N : Int) = allS lg.length (oddT n lg) N [] := by
      rw [all_odd N h3 ho hmin]
      unfold fwpR
      by_cases h : (N : Int) ≤ n
      · rw [if_pos ⟨hg, by omega, h⟩]; rfl
      · rw [if_neg (fun hh => h hh.2.2)]
        exact (all_none_long (by have := hg.2.2.1; omega)).symm
    unfold holeR cycR
    rw [e]
    cases hA : allS lg.length (oddT n lg) N [] with
    | some y => rfl
    | none =>
      show holeR n lg 2 f (N + 2) = cycR n lg f (N + 2)
      refine cyc_hole hg f (N + 2) (by omega) (by omega) fun l' hl' => ?_
      have h1 := hmin l' hl'
      have h2 : l'.length ≠ N := fun he => by
        have := allS_no N [] hA l' he fun x hx => by
          obtain ⟨i, hi, rfl⟩ := List.mem_iff_getElem.1 hx
          obtain ⟨a, b, -⟩ := hl'.1.at hi
          exact ⟨kl l' i, b, by rw [← a]; simp [nth, hi]⟩
        rw [List.nil_append] at this
        unfold oddT at this
        rw [decide_eq_true hl'] at this
        cases this
      have := hl'.2.2.1
      omega

end Go.Proofs.Ytbmpljclplddeab
