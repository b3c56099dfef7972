/- WidthOfOrder: plain facts. -/
import Derived.Test.YtgfndgjabhabjaaX6
import Derived.Test.YtgfndgjabhabjaaH3
namespace Go.Proofs.Ytgfndgjabhabjaa
set_option linter.unusedVariables false
set_option linter.unusedSimpArgs false
open Go.RowKit

/-- The edges when the first k of F have come to Q. -/
def plusK (Q : Nat → Nat → Bool) (F : List (List Int)) : Nat → Nat → Nat → Bool
  | 0 => Q
  | k + 1 => plusE (plusK Q F k) (nth (subL F k) 0).toNat (nth (subL F k) 1).toNat

theorem plusK_iff (Q : Nat → Nat → Bool) (F : List (List Int)) (i j : Nat) : ∀ k, plusK Q F k i j = true ↔ Q i j = true ∨ ∃ m, m < k ∧ ((i = (nth (subL F m) 0).toNat ∧ j = (nth (subL F m) 1).toNat) ∨ (i = (nth (subL F m) 1).toNat ∧ j = (nth (subL F m) 0).toNat))
  | 0 => ⟨fun h => .inl h, fun h => h.elim id fun ⟨m, h, _⟩ => by omega⟩
  | k + 1 => by
    have ih := plusK_iff Q F i j k
    show plusE (plusK Q F k) _ _ i j = true ↔ _
    unfold plusE
    simp only [Bool.or_eq_true, Bool.and_eq_true, beq_iff_eq]
    rw [ih]
    constructor
    · rintro (((h | ⟨m, hm, h⟩) | h) | h)
      · exact .inl h
      · exact .inr ⟨m, by omega, h⟩
      · exact .inr ⟨k, by omega, .inl h⟩
      · exact .inr ⟨k, by omega, .inr h⟩
    · rintro (h | ⟨m, hm, h⟩)
      · exact .inl (.inl (.inl h))
      · by_cases e : m = k
        · subst e
          rcases h with h | h
          · exact .inl (.inr h)
          · exact .inr h
        · exact .inl (.inl (.inr ⟨m, by omega, h⟩))

theorem plusK_sym {n : Nat} {Q : Nat → Nat → Bool} (h : Sym n Q) (F : List (List Int)) : ∀ k, (∀ m, m < k → (nth (subL F m) 0).toNat ≠ (nth (subL F m) 1).toNat) → Sym n (plusK Q F k)
  | 0, _ => h
  | k + 1, hd => plusE_sym (plusK_sym h F k fun m hm => hd m (by omega)) (hd k (by omega))

theorem mem_row {l : List Int} {v w : Nat} {x : List Int} : x ∈ rowE l v w ↔ ∃ j : Nat, j < w ∧ v < j ∧ edB l v j = true ∧ x = [(v : Int), (j : Int)] := by
  unfold rowE
  simp only [List.mem_map, List.mem_filter, List.mem_range, Bool.and_eq_true, decide_eq_true_eq]
  constructor
  · rintro ⟨j, ⟨h1, h2, h3⟩, rfl⟩; exact ⟨j, h1, h2, h3, rfl⟩
  · rintro ⟨j, h1, h2, h3, rfl⟩; exact ⟨j, ⟨h1, h2, h3⟩, rfl⟩

theorem mem_all {l : List Int} {n : Nat} {x : List Int} : ∀ v, x ∈ allE l n v ↔ ∃ i j : Nat, i < v ∧ i < j ∧ j < n ∧ edB l i j = true ∧ x = [(i : Int), (j : Int)]
  | 0 => by simp [allE]
  | v + 1 => by
    rw [allE_succ, List.mem_append, mem_all v, mem_row]
    constructor
    · rintro (⟨i, j, h1, h2, h3, h4, h5⟩ | ⟨j, h1, h2, h3, h4⟩)
      · exact ⟨i, j, by omega, h2, h3, h4, h5⟩
      · exact ⟨v, j, by omega, h2, h1, h3, h4⟩
    · rintro ⟨i, j, h1, h2, h3, h4, h5⟩
      by_cases e : i = v
      · subst e; exact .inr ⟨j, h3, h2, h4, h5⟩
      · exact .inl ⟨i, j, by omega, h2, h3, h4, h5⟩

theorem row_nodup (l : List Int) (v : Nat) : ∀ w, (rowE l v w).Nodup
  | 0 => by simp [rowE]
  | w + 1 => by
    have ih := row_nodup l v w
    have e : rowE l v (w + 1) = rowE l v w ++ (if (decide (v < w) && edB l v w) = true then [[(v : Int), (w : Int)]] else []) := by
      unfold rowE
      rw [List.range_succ, List.filter_append, List.map_append]
      by_cases h : (decide (v < w) && edB l v w) = true
      · simp [h]
      · simp [h]
    rw [e]
    split
    · refine List.nodup_append.2 ⟨ih, by simp, fun a ha b hb => ?_⟩
      simp at hb
      subst hb
      obtain ⟨j, h1, -, -, rfl⟩ := mem_row.1 ha
      simp
      omega
    · simpa using ih

theorem all_nodup (l : List Int) (n : Nat) : ∀ v, (allE l n v).Nodup
  | 0 => by simp [allE]
  | v + 1 => by
    rw [allE_succ]
    refine List.nodup_append.2 ⟨all_nodup l n v, row_nodup l v n, fun a ha b hb => ?_⟩
    obtain ⟨i, j, h1, -, -, -, rfl⟩ := (mem_all v).1 ha
    obtain ⟨j', -, -, -, rfl⟩ := mem_row.1 hb
    simp
    omega

/-- What the new edges are. -/
theorem fill_mem {n : Int} {lg l : List Int} (h : OrdP n lg l) {x : List Int} : x ∈ fillR n lg l ↔ ∃ i j : Nat, i < j ∧ j < lg.length ∧ fillP lg.length (edB lg) l l.length i j = true ∧ edB lg i j = false ∧ x = [(i : Int), (j : Int)] := by
  have hG := (fill_ord h l.length).1
  unfold fillR
  rw [if_pos h, List.mem_filter]
  unfold edgesR
  rw [if_pos hG, adjL_length, mem_all]
  constructor
  · rintro ⟨⟨i, j, h1, h2, h3, h4, rfl⟩, h5⟩
    rw [edB_adj _ _ h1 h3] at h4
    refine ⟨i, j, h2, h3, h4, ?_, rfl⟩
    unfold notQ nth at h5
    simpa using h5
  · rintro ⟨i, j, h2, h3, h4, h5, rfl⟩
    refine ⟨⟨i, j, by omega, h2, h3, by rw [edB_adj _ _ (by omega) h3]; exact h4, rfl⟩, ?_⟩
    unfold notQ nth
    simp [h5]

theorem fill_nodup (n : Int) (lg l : List Int) : (fillR n lg l).Nodup := by
  unfold fillR
  split
  · unfold edgesR
    split
    · exact (all_nodup _ _ _).filter _
    · simp
  · simp

theorem fill_at {n : Int} {lg l : List Int} (h : OrdP n lg l) {k : Nat} (hk : k < (fillR n lg l).length) : ∃ i j : Nat, i < j ∧ j < lg.length ∧ edB lg i j = false ∧ subL (fillR n lg l) k = [(i : Int), (j : Int)] := by
  have hm : subL (fillR n lg l) k ∈ fillR n lg l := by
    unfold subL
    rw [List.getD_eq_getElem?_getD, List.getElem?_eq_getElem hk]
    exact List.getElem_mem hk
  obtain ⟨i, j, h1, h2, -, h4, h5⟩ := (fill_mem h).1 hm
  exact ⟨i, j, h1, h2, h4, h5⟩

theorem sub_inj {F : List (List Int)} (h : F.Nodup) {a b : Nat} (ha : a < F.length) (hb : b < F.length) (e : subL F a = subL F b) : a = b := by
  simp only [subL, List.getD_eq_getElem?_getD, List.getElem?_eq_getElem ha, List.getElem?_eq_getElem hb, Option.getD_some] at e
  exact (List.getElem_inj h).1 e

/-- The next edge is new. -/
theorem fill_new {n : Int} {lg l : List Int} (h : OrdP n lg l) {k i j : Nat} (hk : k < (fillR n lg l).length) (hij : i < j) (hq : edB lg i j = false) (hs : subL (fillR n lg l) k = [(i : Int), (j : Int)]) : plusK (edB lg) (fillR n lg l) k i j = false := by
  cases hc : plusK (edB lg) (fillR n lg l) k i j with
  | false => rfl
  | true =>
    exfalso
    rcases (plusK_iff _ _ i j k).1 hc with h1 | ⟨m, hm, h1⟩
    · rw [hq] at h1; cases h1
    · obtain ⟨a, b, h2, -, -, h3⟩ := fill_at h (show m < (fillR n lg l).length by omega)
      rw [h3] at h1
      simp [nth] at h1
      rcases h1 with ⟨rfl, rfl⟩ | ⟨rfl, rfl⟩
      · have := sub_inj (fill_nodup n lg l) hk (show m < _ by omega) (by rw [hs, h3])
        omega
      · omega

theorem fillP_le (N : Nat) (P : Nat → Nat → Bool) (l : List Int) (i j : Nat) (h : P i j = true) : ∀ k, fillP N P l k i j = true
  | 0 => h
  | k + 1 => joinP_le _ _ _ _ (fillP_le N P l i j h k)

/-- All of them together. -/
theorem fill_plus {n : Int} {lg l : List Int} (h : OrdP n lg l) : adjL lg.length (plusK (edB lg) (fillR n lg l) (fillR n lg l).length) = adjL lg.length (fillP lg.length (edB lg) l l.length) := by
  have hs := fillP_sym (edB_sym' h.graph) l l.length
  refine adjL_congr _ _ _ fun i hi j hj => ?_
  rw [Bool.eq_iff_iff, plusK_iff]
  constructor
  · rintro (h1 | ⟨m, hm, h1⟩)
    · exact fillP_le _ _ _ _ _ h1 _
    · have hmem : subL (fillR n lg l) m ∈ fillR n lg l := by
        unfold subL
        rw [List.getD_eq_getElem?_getD, List.getElem?_eq_getElem hm]
        exact List.getElem_mem hm
      obtain ⟨a, b, h2, h3, h4, -, h5⟩ := (fill_mem h).1 hmem
      rw [h5] at h1
      simp [nth] at h1
      rcases h1 with ⟨rfl, rfl⟩ | ⟨rfl, rfl⟩
      · exact h4
      · rw [hs.1 _ hi _ hj]; exact h4
  · intro h1
    by_cases hq : edB lg i j = true
    · exact .inl hq
    · have hq' : edB lg i j = false := by simpa using hq
      have hne : i ≠ j := fun e => by subst e; rw [hs.2 i hi] at h1; cases h1
      rcases Nat.lt_or_ge i j with hlt | hge
      · have hm := (fill_mem h).2 ⟨i, j, hlt, hj, h1, hq', rfl⟩
        obtain ⟨m, hm2, hm3⟩ := List.mem_iff_getElem.1 hm
        refine .inr ⟨m, hm2, .inl ?_⟩
        have : subL (fillR n lg l) m = [(i : Int), (j : Int)] := by unfold subL; rw [List.getD_eq_getElem?_getD, List.getElem?_eq_getElem hm2, hm3]; rfl
        rw [this]; simp [nth]
      · have hq2 : edB lg j i = false := by rw [(edB_sym' h.graph).1 _ hj _ hi]; exact hq'
        have h2 : fillP lg.length (edB lg) l l.length j i = true := by rw [hs.1 _ hj _ hi]; exact h1
        have hm := (fill_mem h).2 ⟨j, i, by omega, hi, h2, hq2, rfl⟩
        obtain ⟨m, hm2, hm3⟩ := List.mem_iff_getElem.1 hm
        refine .inr ⟨m, hm2, .inr ?_⟩
        have : subL (fillR n lg l) m = [(j : Int), (i : Int)] := by unfold subL; rw [List.getD_eq_getElem?_getD, List.getElem?_eq_getElem hm2, hm3]; rfl
        rw [this]; simp [nth]

/-- The greatest number of later neighbours among the first k. -/
def widK (L l : List Int) : Nat → Nat
  | 0 => 0
  | k + 1 => max (widK L l k) (popN (lateN L l (kl l k) k))

def widthR (n : Int) (lg l : List Int) : Int := if OrdP n lg l then ((widK (adjL lg.length (fillP lg.length (edB lg) l l.length)) l l.length : Nat) : Int) else -1

theorem pop_le7 (X : Nat) : popN X ≤ 7 := by
  unfold popN memN
  exact Nat.le_trans (List.length_filter_le _ _) (by simp)

theorem widK_le (L l : List Int) : ∀ k, widK L l k ≤ 7
  | 0 => by simp [widK]
  | k + 1 => by
    have := widK_le L l k
    have := pop_le7 (lateN L l (kl l k) k)
    unfold widK
    omega

theorem popU_w (Y : Nat) (h : Y < 128) : popU (Y : Int) = ((popN Y : Nat) : Int) := by
  unfold popU
  rw [if_pos ⟨by omega, by omega⟩]
  unfold listU popN
  rw [List.length_map]
  exact congrArg (fun l : List Nat => (l.length : Int)) (memU_nat Y)

end Go.Proofs.Ytgfndgjabhabjaa
