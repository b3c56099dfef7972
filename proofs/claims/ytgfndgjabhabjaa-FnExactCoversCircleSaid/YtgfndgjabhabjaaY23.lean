/- Arcs that have a point in common: plain facts. -/
import Derived.Test.YtgfndgjabhabjaaY21
namespace Go.Proofs.Ytgfndgjabhabjaa
set_option linter.unusedVariables false
set_option linter.unusedSimpArgs false
open Go.RowKit

def rowB (p : Nat → Bool) : List Value := (List.range 30).map fun x => Value.bool (p x)

theorem onRow_rowB (n f : Int) (k : Nat) : onRow n f k = rowB (onB n f k) := rfl

theorem rowB_len (p : Nat → Bool) : (rowB p).length = 30 := by simp [rowB]

theorem rowB_get (p : Nat → Bool) {x : Nat} (h : x < 30) : (rowB p)[x]? = some (.bool (p x)) := by simp [rowB, h]

theorem rowB_set (p : Nat → Bool) {x : Nat} (h : x < 30) (b : Bool) : (rowB p).set x (.bool b) = rowB fun y => if y = x then b else p y := by
  refine List.ext_getElem? fun i => ?_
  rw [List.getElem?_set]
  by_cases hi : i < 30
  · rw [rowB_get _ hi]
    by_cases e : x = i
    · subst e; rw [if_pos rfl, if_pos (by rw [rowB_len]; exact h), rowB_get _ hi]; simp
    · rw [if_neg e, rowB_get _ hi, if_neg (fun h => e h.symm)]
  · have h1 : (rowB p)[i]? = none := List.getElem?_eq_none (by rw [rowB_len]; omega)
    have h2 : (rowB fun y => if y = x then b else p y)[i]? = none := List.getElem?_eq_none (by rw [rowB_len]; omega)
    rw [h1, h2, if_neg (by omega)]

theorem rowB_inj {p q : Nat → Bool} : rowB p = rowB q ↔ ∀ x, x < 30 → p x = q x := by
  constructor
  · intro h x hx
    have := congrArg (fun l => l[x]?) h
    simp only [rowB_get _ hx] at this
    simpa using this
  · intro h
    unfold rowB
    refine List.map_congr_left fun x hx => ?_
    rw [h x (List.mem_range.1 hx)]

/-- Both, up to k. -/
def mixB (op : Bool → Bool → Bool) (p q : Nat → Bool) (k x : Nat) : Bool := if x < k then op (p x) (q x) else p x

theorem mix_zero (op : Bool → Bool → Bool) (p q : Nat → Bool) : rowB (mixB op p q 0) = rowB p := rfl

theorem mix_succ (op : Bool → Bool → Bool) (p q : Nat → Bool) {k : Nat} (hk : k < 30) : (rowB (mixB op p q k)).set k (.bool (op (p k) (q k))) = rowB (mixB op p q (k + 1)) := by
  rw [rowB_set _ hk]
  refine rowB_inj.2 fun x _ => ?_
  unfold mixB
  by_cases e : x = k
  · subst e; rw [if_pos rfl, if_pos (by omega)]
  · rw [if_neg e]
    by_cases h : x < k
    · rw [if_pos h, if_pos (by omega)]
    · rw [if_neg h, if_neg (by omega)]

theorem mix_all (op : Bool → Bool → Bool) (p q : Nat → Bool) : rowB (mixB op p q 30) = rowB fun x => op (p x) (q x) := rowB_inj.2 fun x hx => by unfold mixB; rw [if_pos hx]

def meetB (n : Int) (l m : List Int) (i j : Nat) : Bool := (List.range 30).any fun x => onB n (nth l i) (nth m i).toNat x && onB n (nth l j) (nth m j).toNat x

theorem mod_sub {n a b : Int} {i j : Nat} (hji : j ≤ i) (hi : (i : Int) < n) (h : (a + (i : Int)) % n = (b + (j : Int)) % n) : (b - a + n) % n = (i : Int) - (j : Int) := by
  obtain ⟨c, hc⟩ := Int.dvd_of_emod_eq_zero (Int.emod_eq_emod_iff_emod_sub_eq_zero.1 h)
  have e : b - a + n = ((i : Int) - (j : Int)) + n * (1 - c) := by rw [Int.mul_sub, Int.mul_one, ← hc]; omega
  rw [e, Int.add_mul_emod_self_left]
  exact Int.emod_eq_of_lt (by omega) (by omega)

theorem on_start {n f : Int} {k : Nat} (h0 : 0 ≤ f) (h1 : f < n) (hk : 0 < k) : onB n f k f.toNat = true :=
  decide_eq_true ⟨0, hk, by rw [show f + ((0 : Nat) : Int) = f by omega, Int.emod_eq_of_lt h0 h1]; omega⟩

theorem meet_iff {n : Int} {l m : List Int} (hP : ArcsP n l m) {i j : Nat} (hi : i < l.length) (hj : j < l.length) :
    meetB n l m i j = decide (ArcOn n l m i (nth l j) ∨ ArcOn n l m j (nth l i)) := by
  obtain ⟨⟨h3, h30⟩, -, -, hv⟩ := hP
  obtain ⟨f0, f1, k0, k1⟩ := hv i hi
  obtain ⟨g0, g1, c0, c1⟩ := hv j hj
  rw [Bool.eq_iff_iff, decide_eq_true_iff]
  unfold meetB
  rw [List.any_eq_true]
  constructor
  · rintro ⟨x, hx, h⟩
    rw [Bool.and_eq_true] at h
    unfold onB at h
    obtain ⟨⟨i', hi', e1⟩, ⟨j', hj', e2⟩⟩ := And.intro (of_decide_eq_true h.1) (of_decide_eq_true h.2)
    have e := e1.trans e2.symm
    rcases Nat.le_total j' i' with hle | hle
    · left
      unfold ArcOn
      rw [mod_sub hle (by omega) e]
      omega
    · right
      unfold ArcOn
      rw [mod_sub hle (by omega) e.symm]
      omega
  · rintro (h | h)
    · unfold ArcOn at h
      refine ⟨(nth l j).toNat, List.mem_range.2 (by omega), ?_⟩
      rw [Bool.and_eq_true]
      refine ⟨?_, on_start g0 g1 (by omega)⟩
      rw [on_iff f0 f1 (by omega) (by omega)]
      exact decide_eq_true (by rw [Int.toNat_of_nonneg g0, Int.toNat_of_nonneg (by omega)]; exact h)
    · unfold ArcOn at h
      refine ⟨(nth l i).toNat, List.mem_range.2 (by omega), ?_⟩
      rw [Bool.and_eq_true]
      refine ⟨on_start f0 f1 (by omega), ?_⟩
      rw [on_iff g0 g1 (by omega) (by omega)]
      exact decide_eq_true (by rw [Int.toNat_of_nonneg f0, Int.toNat_of_nonneg (by omega)]; exact h)

theorem meet_sym (n : Int) (l m : List Int) (i j : Nat) : meetB n l m i j = meetB n l m j i := by
  unfold meetB
  congr 1
  funext x
  exact Bool.and_comm _ _

end Go.Proofs.Ytgfndgjabhabjaa
