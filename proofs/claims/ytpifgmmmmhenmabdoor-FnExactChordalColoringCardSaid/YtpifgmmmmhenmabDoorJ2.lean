/- The first list of vertices with a pattern. -/
import Derived.Test.YtpifgmmmmhenmabDoorJ1
namespace Go.Proofs.YtpifgmmmmhenmabDoor
set_option linter.unusedVariables false
set_option linter.unusedSimpArgs false
open Go.RowKit

theorem setOf_snoc (x : Int) : ∀ (l : List Int) (s0 : Int), setOf (l ++ [x]) s0 = match setOf l s0 with
    | some s => if 0 ≤ x ∧ x ≤ 6 ∧ bitAt s x.toNat = 0 then some (s + 2 ^ x.toNat) else none
    | none => none
  | [], s0 => by simp [setOf]
  | y :: t, s0 => by
    show setOf (y :: (t ++ [x])) s0 = _
    unfold setOf
    split
    · exact setOf_snoc x t _
    · rfl

theorem nth_snoc_lt (l : List Int) (x : Int) (i : Nat) (h : i < l.length) : kl (l ++ [x]) i = kl l i := by
  unfold kl; rw [nth_append_lt l [x] i h]

theorem kl_snoc (l : List Int) (v : Nat) : kl (l ++ [(v : Int)]) l.length = v := by
  unfold kl; rw [nth_append_len]; rfl

theorem isS_two {n : Int} {lg : List Int} (hg : IsG n lg) : (2 : Int) ^ n.toNat = ((2 ^ lg.length : Nat) : Int) ∧ lg.length ≤ 7 := by
  have h1 : n.toNat = lg.length := by have := hg.2.2.1; omega
  refine ⟨by rw [h1]; push_cast; rfl, by have := hg.2.1; have := hg.2.2.1; omega⟩

theorem dist_snoc {n : Int} {lg l : List Int} {v : Nat} (hg : IsG n lg) (hv : v < lg.length) : Dist n lg (l ++ [(v : Int)]) ↔ Dist n lg l ∧ ∀ i, i < l.length → kl l i ≠ v := by
  obtain ⟨e2, h7⟩ := isS_two hg
  constructor
  · rintro ⟨s', hs', hS⟩
    rw [setOf_snoc] at hs'
    cases hs : setOf l 0 with
    | none => rw [hs] at hs'; cases hs'
    | some s =>
      rw [hs] at hs'
      simp only at hs'
      split at hs'
      · rename_i hc
        obtain rfl := Option.some.inj hs'
        obtain ⟨b0, b1, -, b3⟩ := setOf_bits l 0 s (by omega) (by omega) hs
        have hp : (0 : Int) < 2 ^ v := two_pos v
        rw [Int.toNat_natCast] at hS hc
        refine ⟨⟨s, hs, hg, b0, by have := hS.2.2; omega⟩, fun i hi he => ?_⟩
        have := (b3 i hi).2.2
        unfold kl at he
        rw [he] at this
        omega
      · cases hs'
  · rintro ⟨⟨s, hs, hS⟩, hne⟩
    obtain ⟨b0, b1, -, -⟩ := setOf_bits l 0 s (by omega) (by omega) hs
    have hb : bitAt s v = 0 := by
      rcases bitAt_two s v with h | h
      · exact h
      · rcases setOf_only l 0 s (by omega) (by omega) hs v (by omega) h with h1 | ⟨i, hi, he⟩
        · have h0 : bitAt (0 : Int) v = 0 := bit_high 0 0 v (by omega) (by decide) (by omega)
          omega
        · exact absurd he (hne i hi)
    refine ⟨s + 2 ^ v, ?_, hg, ?_, ?_⟩
    · rw [setOf_snoc, hs]
      simp only [Int.toNat_natCast]
      rw [if_pos ⟨by omega, by omega, hb⟩]
    · have hp : (0 : Int) < 2 ^ v := two_pos v
      omega
    · obtain ⟨o1, -⟩ := set_small s v b0 b1 (by omega) hb
      obtain ⟨X, rfl⟩ := Int.eq_ofNat_of_zero_le b0
      have e3 : (2 : Int) ^ v = ((2 ^ v : Nat) : Int) := by push_cast; rfl
      have hX : X < 2 ^ lg.length := by have := hS.2.2; rw [e2] at this; omega
      have hP : 2 ^ v < 2 ^ lg.length := Nat.pow_lt_pow_right (by decide) hv
      have h128 := two_le _ h7
      have h4 := (bits_nat X (2 ^ v) (by omega) (by omega)).2
      rw [← e3, o1] at h4
      have h5 := Nat.or_lt_two_pow hX hP
      rw [h4, e2]
      omega

/-- A vertex that fits what stands before it. -/
def patF (lg : List Int) (pat : Nat → Nat → Bool) (l : List Int) (v : Nat) : Bool := decide (∀ i, i < l.length → kl l i ≠ v ∧ edB lg (kl l i) v = pat i l.length)

theorem pat_snoc {n : Int} {lg l : List Int} {pat : Nat → Nat → Bool} {v : Nat} (hg : IsG n lg) (hv : v < lg.length) : HasPat n lg (l ++ [(v : Int)]) pat ↔ HasPat n lg l pat ∧ patF lg pat l v = true := by
  unfold HasPat patF
  rw [dist_snoc hg hv, decide_eq_true_iff]
  constructor
  · rintro ⟨⟨h1, h2⟩, h3⟩
    refine ⟨⟨h1, fun j hj i hi => ?_⟩, fun i hi => ⟨h2 i hi, ?_⟩⟩
    · have := h3 j (by simp; omega) i hi
      rw [nth_snoc_lt l _ j hj, nth_snoc_lt l _ i (by omega)] at this
      exact this
    · have := h3 l.length (by simp) i hi
      rw [kl_snoc, nth_snoc_lt l _ i hi] at this
      exact this
  · rintro ⟨⟨h1, h3⟩, h2⟩
    refine ⟨⟨h1, fun i hi => (h2 i hi).1⟩, fun j hj i hi => ?_⟩
    simp at hj
    rcases Nat.lt_or_ge j l.length with h | h
    · rw [nth_snoc_lt l _ j h, nth_snoc_lt l _ i (by omega)]
      exact h3 j h i hi
    · obtain rfl : j = l.length := by omega
      rw [kl_snoc, nth_snoc_lt l _ i hi]
      exact (h2 i hi).2

theorem pat_nil {n : Int} {lg : List Int} {pat : Nat → Nat → Bool} (hg : IsG n lg) : HasPat n lg [] pat :=
  ⟨⟨0, rfl, hg, by omega, two_pos _⟩, fun j hj => absurd hj (by simp)⟩

theorem pat_last {n : Int} {lg l : List Int} {pat : Nat → Nat → Bool} {x : Int} (h : HasPat n lg (l ++ [x]) pat) : ∃ v : Nat, v < lg.length ∧ x = v := by
  obtain ⟨h1, h2, -⟩ := h.1.at (i := l.length) (by simp)
  rw [nth_append_len] at h1
  exact ⟨_, h2, h1⟩

theorem pat_init {n : Int} {lg l : List Int} {pat : Nat → Nat → Bool} {x : Int} (h : HasPat n lg (l ++ [x]) pat) : HasPat n lg l pat := by
  obtain ⟨v, hv, rfl⟩ := pat_last h
  exact ((pat_snoc h.1.graph hv).1 h).1

theorem pat_prefix {n : Int} {lg : List Int} {pat : Nat → Nat → Bool} : ∀ (s l : List Int), HasPat n lg (l ++ s) pat → HasPat n lg l pat
  | [], l, h => by rwa [List.append_nil] at h
  | x :: t, l, h => pat_init (pat_prefix t (l ++ [x]) (by rwa [List.append_assoc]))

/-- Is it a list with the pattern? -/
def patT (n : Int) (lg : List Int) (pat : Nat → Nat → Bool) (l : List Int) : Bool := decide (HasPat n lg l pat)

theorem srch_pat {n : Int} {lg : List Int} {pat : Nat → Nat → Bool} (hg : IsG n lg) (k : Nat) :
    srchS lg.length (patF lg pat) (fun _ => true) k [] = allS lg.length (patT n lg pat) k [] :=
  srch_all lg.length (patF lg pat) (patT n lg pat) (fun _ => true) (fun l _ => HasPat n lg l pat)
    (fun l h => by unfold patT; rw [decide_eq_true h])
    (fun l k v h hv hf => (pat_snoc hg hv).2 ⟨h, hf⟩)
    (fun l k v h hv hf s hs => by
      unfold patT
      rw [decide_eq_false_iff_not]
      intro hp
      have := ((pat_snoc hg hv).1 (pat_prefix s _ hp)).2
      rw [hf] at this
      cases this)
    k [] (pat_nil hg)

/-- The first list of k vertices with the pattern. -/
def fwpR (n : Int) (lg : List Int) (pat : Nat → Nat → Bool) (k : Int) : Option (List Int) := if IsG n lg ∧ 1 ≤ k ∧ k ≤ n then allS lg.length (patT n lg pat) k.toNat [] else none

def outL : Option (List Int) → List Int
  | some l => l
  | none => []

def outS : Option (List Int) → Bool
  | some _ => true
  | none => false

/-- A list of the call's own, and whether there is one. -/
def GetsLB (B : Nat) (w : World) (r : Option (List Int)) (e : Ending) (w' : World) : Prop := ∃ v, e = .returned (.tuple #[v, .bool (outS r)]) ∧ OwnI B w' v (outL r) ∧ Below w.heap.size w w'

theorem all_shape (m : Nat) (T : List Int → Bool) : ∀ (k : Nat) (l y : List Int), allS m T k l = some y → T y = true ∧ y.length = l.length + k
  | 0, l, y, h => by
    unfold allS at h
    split at h
    · rename_i hT
      obtain rfl := Option.some.inj h
      exact ⟨hT, by simp⟩
    · cases h
  | k + 1, l, y, h => by
    unfold allS at h
    obtain ⟨v, hv, hs⟩ := firstS_some h
    obtain ⟨h1, h2⟩ := all_shape m T k _ y hs
    exact ⟨h1, by rw [h2]; simp; omega⟩

theorem fwp_len (n : Int) (lg : List Int) (pat : Nat → Nat → Bool) (k : Int) : (outL (fwpR n lg pat k)).length ≤ 7 := by
  unfold fwpR
  split
  · rename_i h
    cases hq : allS lg.length (patT n lg pat) k.toNat [] with
    | none => simp [outL]
    | some y =>
      have := (all_shape _ _ _ _ _ hq).2
      have h1 := h.1.2.1
      simp [outL] at *
      omega
  · simp [outL]

end Go.Proofs.YtpifgmmmmhenmabDoor
