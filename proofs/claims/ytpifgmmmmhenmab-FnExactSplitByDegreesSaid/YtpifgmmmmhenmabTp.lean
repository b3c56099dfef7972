/- Lists sorted and without repetition: plain facts. -/
import Derived.Test.YtpifgmmmmhenmabRv
import Derived.Lib.SlicesCompact
namespace Go.Proofs.Ytpifgmmmmhenmab
set_option linter.unusedVariables false
set_option linter.unusedSimpArgs false
open Go.RowKit Go.Shelf

def SortedL (l : List Int) : Prop := l.Pairwise (· ≤ ·)

theorem sortL_sorted (l : List Int) : SortedL (sortL l) := by
  have h := List.pairwise_mergeSort (le := fun x y : Int => decide (x ≤ y)) (fun a b c h1 h2 => by simp at *; omega) (fun a b => by simp; omega) l
  exact h.imp fun h => by simpa using h

theorem sortL_perm (l : List Int) : (sortL l).Perm l := List.mergeSort_perm l _

theorem sorted_is {l s : List Int} (hs : SortedL s) (hp : s.Perm l) : s = sortL l :=
  List.Perm.eq_of_pairwise (le := (· ≤ ·)) (fun a b _ _ h1 h2 => Int.le_antisymm h1 h2) hs (sortL_sorted l) (hp.trans (sortL_perm l).symm)

theorem sortL_length (l : List Int) : (sortL l).length = l.length := (sortL_perm l).length_eq

/-- An entry put in where it keeps the order. -/
theorem sorted_ins {l s : List Int} {x : Int} {k : Nat} (h : s = sortL l) (hk : k ≤ s.length) (h0 : ∀ j, j < k → nth s j ≤ x) (h1 : ∀ j, k ≤ j → j < s.length → x ≤ nth s j) : s.take k ++ [x] ++ s.drop k = sortL (l ++ [x]) := by
  have hs : SortedL s := by rw [h]; exact sortL_sorted l
  refine sorted_is ?_ ?_
  · unfold SortedL
    rw [List.append_assoc, List.pairwise_append]
    refine ⟨hs.sublist (List.take_sublist k s), ?_, ?_⟩
    · rw [List.singleton_append, List.pairwise_cons]
      refine ⟨fun y hy => ?_, hs.sublist (List.drop_sublist k s)⟩
      obtain ⟨j, hj, rfl⟩ := List.mem_iff_getElem.1 hy
      rw [List.length_drop] at hj
      have := h1 (k + j) (by omega) (by omega)
      simpa [nth, List.getD, List.getElem?_eq_getElem (show k + j < s.length by omega)] using this
    · intro a ha b hb
      obtain ⟨j, hj, rfl⟩ := List.mem_iff_getElem.1 ha
      rw [List.length_take] at hj
      have hax : (s.take k)[j] ≤ x := by
        have := h0 j (by omega)
        simpa [nth, List.getD, List.getElem?_eq_getElem (show j < s.length by omega)] using this
      rcases List.mem_append.1 hb with hb | hb
      · simp at hb; omega
      · obtain ⟨i, hi, rfl⟩ := List.mem_iff_getElem.1 hb
        rw [List.length_drop] at hi
        have := h1 (k + i) (by omega) (by omega)
        have h2 : x ≤ (s.drop k)[i] := by simpa [nth, List.getD, List.getElem?_eq_getElem (show k + i < s.length by omega)] using this
        omega
  · have h2 : (s.take k ++ [x] ++ s.drop k).Perm (s ++ [x]) := by
      have h3 : (s.take k ++ [x] ++ s.drop k).Perm (s.take k ++ (s.drop k ++ [x])) := by
        rw [List.append_assoc]
        exact List.Perm.append_left _ List.perm_append_comm
      rw [← List.append_assoc, List.take_append_drop] at h3
      exact h3
    refine h2.trans ?_
    rw [h]
    exact (sortL_perm l).append_right _

theorem sortL_mono {l : List Int} {i j : Nat} (hij : i ≤ j) (hj : j < l.length) : nth (sortL l) i ≤ nth (sortL l) j := by
  have hl := sortL_length l
  rcases Nat.lt_or_ge i j with h | h
  · have := List.pairwise_iff_getElem.1 (sortL_sorted l) i j (by omega) (by omega) h
    simpa [nth, List.getD, List.getElem?_eq_getElem (show i < (sortL l).length by omega), List.getElem?_eq_getElem (show j < (sortL l).length by omega)] using this
  · obtain rfl : i = j := by omega
    omega

/-- What has come, once each. -/
def dedS (d : List Int) (x : Int) : List Int := if x ∈ d then d else d ++ [x]

def dedF (f : Nat → Int) : Nat → List Int
  | 0 => []
  | k + 1 => dedS (dedF f k) (f k)

theorem ded_mem (f : Nat → Int) : ∀ (k : Nat) (x : Int), x ∈ dedF f k ↔ ∃ j, j < k ∧ f j = x
  | 0, x => by simp [dedF]
  | k + 1, x => by
    have ih := ded_mem f k
    show x ∈ dedS (dedF f k) (f k) ↔ _
    unfold dedS
    split
    · rename_i h
      rw [ih]
      refine ⟨fun ⟨j, hj, e⟩ => ⟨j, by omega, e⟩, fun ⟨j, hj, e⟩ => ?_⟩
      rcases Nat.lt_or_ge j k with h' | h'
      · exact ⟨j, h', e⟩
      · obtain rfl : j = k := by omega
        rw [← e]
        exact (ih _).1 h
    · rw [List.mem_append, ih]
      refine ⟨fun h => ?_, fun ⟨j, hj, e⟩ => ?_⟩
      · rcases h with ⟨j, hj, e⟩ | h
        · exact ⟨j, by omega, e⟩
        · simp at h; exact ⟨k, by omega, h.symm⟩
      · rcases Nat.lt_or_ge j k with h' | h'
        · exact .inl ⟨j, h', e⟩
        · obtain rfl : j = k := by omega
          exact .inr (by simp [e])

theorem ded_nodup (f : Nat → Int) : ∀ k, (dedF f k).Nodup
  | 0 => List.nodup_nil
  | k + 1 => by
    show (dedS (dedF f k) (f k)).Nodup
    unfold dedS
    split
    · exact ded_nodup f k
    · rename_i h
      exact List.nodup_append.2 ⟨ded_nodup f k, by simp, fun a ha b hb e => by simp at hb; subst hb; subst e; exact h ha⟩

theorem ded_length (f : Nat → Int) : ∀ k, (dedF f k).length ≤ k
  | 0 => Nat.le_refl _
  | k + 1 => by
    have := ded_length f k
    show (dedS (dedF f k) (f k)).length ≤ _
    unfold dedS
    split
    · omega
    · simp; omega

theorem incr_ext : ∀ (a b : List Int), a.Pairwise (· < ·) → b.Pairwise (· < ·) → (∀ x, x ∈ a ↔ x ∈ b) → a = b
  | [], [], _, _, _ => rfl
  | [], y :: b, _, _, h => absurd ((h y).2 (by simp)) (by simp)
  | x :: a, [], _, _, h => absurd ((h x).1 (by simp)) (by simp)
  | x :: a, y :: b, ha, hb, h => by
    rw [List.pairwise_cons] at ha hb
    have h1 : x = y := by
      have e1 := (h x).1 (by simp)
      have e2 := (h y).2 (by simp)
      rcases List.mem_cons.1 e1 with e1 | e1
      · exact e1
      · rcases List.mem_cons.1 e2 with e2 | e2
        · exact e2.symm
        · have := hb.1 x e1; have := ha.1 y e2; omega
    subst h1
    rw [incr_ext a b ha.2 hb.2 fun z => ?_]
    have hz := h z
    refine ⟨fun hm => ?_, fun hm => ?_⟩
    · have := ha.1 z hm
      rcases List.mem_cons.1 (hz.1 (by simp [hm])) with e | e
      · omega
      · exact e
    · have := hb.1 z hm
      rcases List.mem_cons.1 (hz.2 (by simp [hm])) with e | e
      · omega
      · exact e

theorem comp_facts (d : Array Int) (hm : ∀ i j, i ≤ j → j < d.size → d[i]! ≤ d[j]!) : ∀ m, m ≤ d.size → (Lib.compactUpTo d m).Pairwise (· < ·) ∧ (∀ x, x ∈ Lib.compactUpTo d m ↔ ∃ j, j < m ∧ d[j]! = x)
  | 0, _ => by simp [Lib.compactUpTo]
  | m + 1, hle => by
    obtain ⟨h1, h2⟩ := comp_facts d hm m (by omega)
    rw [Lib.compactUpTo_succ]
    have hk : Lib.keeps d m = decide (m = 0 ∨ d[m]! ≠ d[m - 1]!) := rfl
    by_cases hc : m = 0 ∨ d[m]! ≠ d[m - 1]!
    · rw [hk, decide_eq_true hc, if_pos rfl]
      refine ⟨List.pairwise_append.2 ⟨h1, by simp, fun a ha b hb => ?_⟩, fun x => ?_⟩
      · simp at hb
        subst hb
        obtain ⟨j, hj, rfl⟩ := (h2 a).1 ha
        have e1 := hm j (m - 1) (by omega) (by omega)
        have e2 := hm (m - 1) m (by omega) (by omega)
        have e3 : d[m]! ≠ d[m - 1]! := hc.resolve_left (by omega)
        omega
      · rw [List.mem_append, h2]
        refine ⟨fun h => ?_, fun ⟨j, hj, e⟩ => ?_⟩
        · rcases h with ⟨j, hj, e⟩ | h
          · exact ⟨j, by omega, e⟩
          · simp at h; exact ⟨m, by omega, h.symm⟩
        · rcases Nat.lt_or_ge j m with h' | h'
          · exact .inl ⟨j, h', e⟩
          · obtain rfl : j = m := by omega
            exact .inr (by simp [e])
    · rw [hk, decide_eq_false hc]
      have hc' : m ≠ 0 ∧ d[m]! = d[m - 1]! := ⟨fun e => hc (.inl e), Classical.not_not.1 fun e => hc (.inr e)⟩
      simp only [Bool.false_eq_true, if_false, List.append_nil]
      refine ⟨h1, fun x => ?_⟩
      rw [h2]
      refine ⟨fun ⟨j, hj, e⟩ => ⟨j, by omega, e⟩, fun ⟨j, hj, e⟩ => ?_⟩
      rcases Nat.lt_or_ge j m with h' | h'
      · exact ⟨j, h', e⟩
      · obtain rfl : j = m := by omega
        exact ⟨j - 1, by omega, by rw [← hc'.2]; exact e⟩

/-- Sorted and then compacted is: once each, sorted. -/
theorem comp_sort (f : Nat → Int) (k : Nat) : Lib.compact (sortL ((List.range k).map f)) = sortL (dedF f k) := by
  obtain ⟨S, hS⟩ : ∃ S, S = sortL ((List.range k).map f) := ⟨_, rfl⟩
  have hSl : S.length = k := by rw [hS, sortL_length]; simp
  have hget : ∀ j, j < k → S.toArray[j]! = nth S j := fun j hj => by
    rw [getElem!_pos _ j (by simpa [hSl] using hj)]
    simp [nth, List.getD, List.getElem?_eq_getElem (show j < S.length by omega)]
  obtain ⟨h1, h2⟩ := comp_facts S.toArray (fun i j hij hj => by
    have hj' : j < k := by simpa [hSl] using hj
    rw [hget i (by omega), hget j hj', hS]
    exact sortL_mono hij (by simpa using hj')) S.length (by simp)
  rw [← hS]
  refine incr_ext _ _ h1 ?_ fun x => ?_
  · have hn : (sortL (dedF f k)).Nodup := (sortL_perm _).symm.nodup (ded_nodup f k)
    exact List.Pairwise.imp (fun {a b} (h : a ≤ b ∧ a ≠ b) => by omega) ((sortL_sorted _).and hn)
  · show x ∈ Lib.compactUpTo S.toArray S.length ↔ _
    rw [h2, (sortL_perm _).mem_iff, ded_mem]
    have hmem : ∀ y, y ∈ S ↔ ∃ j, j < k ∧ f j = y := fun y => by
      rw [hS, (sortL_perm _).mem_iff, List.mem_map]
      exact ⟨fun ⟨j, hj, e⟩ => ⟨j, List.mem_range.1 hj, e⟩, fun ⟨j, hj, e⟩ => ⟨j, List.mem_range.2 hj, e⟩⟩
    rw [← hmem]
    refine ⟨fun ⟨j, hj, e⟩ => ?_, fun h => ?_⟩
    · rw [hget j (by omega)] at e
      rw [← e]
      unfold nth List.getD
      rw [List.getElem?_eq_getElem hj]
      exact List.getElem_mem _
    · obtain ⟨j, hj, rfl⟩ := List.mem_iff_getElem.1 h
      exact ⟨j, hj, by rw [hget j (by omega)]; simp [nth, List.getD, List.getElem?_eq_getElem hj]⟩

end Go.Proofs.Ytpifgmmmmhenmab
