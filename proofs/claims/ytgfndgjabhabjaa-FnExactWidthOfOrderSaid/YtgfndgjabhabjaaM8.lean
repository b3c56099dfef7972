/- GraphOfPermutation. -/
import Derived.Test.YtgfndgjabhabjaaM6
import Derived.Test.YtgfndgjabhabjaaN2
import Derived.Test.YtgfndgjabhabjaaV1
namespace Go.Proofs.Ytgfndgjabhabjaa
set_option linter.unusedVariables false
set_option linter.unusedSimpArgs false
open Go.RowKit

def permR (l : List Int) (i j : Nat) : Bool := decide (nth l j < nth l i)

def permN (l : List Int) : Int := if PermP l then (l.length : Int) else 0

def permL (l : List Int) : List Int := if PermP l then adjL l.length (symR (permR l)) else []

theorem PermP.len {l : List Int} (h : PermP l) : 1 ≤ l.length ∧ l.length ≤ 7 := ⟨h.1, (set_len h.2).1⟩

theorem permL_length (l : List Int) : (permL l).length ≤ 7 := by
  unfold permL
  split
  · rename_i h
    rw [adjL_length]
    exact h.len.2
  · simp

theorem part_step' (n : Nat) (r : Nat → Nat → Bool) (k m : Nat) (hk : k < n) (hm : m < k) (hr : r m k = true) : flipE (adjL n (partR r k m)) k m = adjL n (partR r k (m + 1)) := by
  rw [adjL_flip n _ k m hk (by omega) (by omega) (by rw [partR_comm]; exact partR_open r k m) (partR_open r k m)]
  refine adjL_congr n _ _ fun i hi j hj => ?_
  rw [partR_yes r k m i j hr hm]
  cases partR r k m i j <;> simp [Bool.or_comm]

theorem part_ok (n : Nat) (r : Nat → Nat → Bool) (k m : Nat) (h1 : 1 ≤ n) (h7 : n ≤ 7) (hk : k < n) (hm : m < k) : AddOk n (adjL n (partR r k m)) k m := by
  refine ⟨isG_adjL n _ h1 h7 (fun i _ => partR_self r k m i) (fun i j _ _ => partR_comm r k m i j), by omega, by omega, by omega, ?_⟩
  rw [Int.toNat_natCast, Int.toNat_natCast]
  unfold edB
  rw [adjL_bit n _ k m hk (by omega), partR_comm, partR_open r k m]
  rfl

/-- The graph that is being made, in its box q. -/
def CurQ (w : World) (q : Nat) (n : Nat) (L : List Int) (u : Value) (wr : World) : Prop :=
  OwnI (w.heap.size + 1) wr u L ∧ BoxF q n u wr ∧ Blank w.heap.size wr ∧ Below w.heap.size w wr ∧ (∀ k, u.ownBlock = some k → k ≠ q) ∧ w.heap.size < q

theorem CurQ.next {w wr w5 : World} {q n : Nat} {L L' : List Int} {u v5 : Value} (h : CurQ w q n L u wr) (ho : OwnI wr.heap.size w5 v5 L') (hb : Below wr.heap.size wr w5) :
    CurQ w q n L' v5 ((w5.setCell ⟨q, 0, none⟩ (.int .i64 n)).setCell ⟨q, 1, none⟩ v5) := by
  obtain ⟨-, h2, h3, h4, -, h6⟩ := h
  have hq := h2.1.2.2
  refine ⟨((ho.setBelow (a := ⟨q, 0, none⟩) hq _).setBelow (a := ⟨q, 1, none⟩) hq _).mono (by omega), (h2.keep (below_grown hb) (by simp)).set, ?_, ?_, fun k hk => ?_, h6⟩
  · exact ((h3.keep (below_grown hb) (by simp)).keep (gset _ _ _ _) (by simp; omega)).keep (gset _ _ _ _) (by simp; omega)
  · exact ((h4.trans (hb.mono h4.size)).setCell (p := ⟨q, 0, none⟩) (by show w.heap.size ≤ q; omega) _).setCell (p := ⟨q, 1, none⟩) (by show w.heap.size ≤ q; omega) _
  · have := (ho.lt k hk).1
    omega

theorem CurQ.on {w wr w' : World} {q n : Nat} {L : List Int} {u : Value} (h : CurQ w q n L u wr) (hb : Below wr.heap.size wr w') : CurQ w q n L u w' :=
  ⟨h.1.on hb, h.2.1.keep (below_grown hb) (by simp), h.2.2.1.keep (below_grown hb) (by simp), h.2.2.2.1.trans (hb.mono h.2.2.2.1.size), h.2.2.2.2⟩

theorem CurQ.init (w wr : World) (n : Nat) (r : Nat → Nat → Bool) (hn : n ≤ 7) (h1 : Blank w.heap.size wr) (h2 : Below w.heap.size w wr) :
    CurQ w (wr.heap.size + 1) n (adjL n (partR r 0 0)) (.slice (some ⟨wr.heap.size, 0, none⟩) n n) ((wr.alloc (.cells (madeCells #[.int .i64 0] n) 3)).alloc (.cells #[.int .i64 n, .slice (some ⟨wr.heap.size, 0, none⟩) n n] 44)) := by
  have hlt := h1.2.2.2.2
  have hz : ∀ i, i < (adjL n (partR r 0 0)).length → (fun _ : Nat => Value.int .i64 0) i = .int .i64 (nth (adjL n (partR r 0 0)) i) := fun i hi => by
    rw [adjL_length] at hi
    rw [adjL_nth n _ i hi, rowV_congr _ _ n (fun j _ => partR_none r i j), rowV_none]
  have hrow := World.rowIs_made wr (.int .i64 0) (adjL n (partR r 0 0)).length 3
  have hown := OwnI.of_row (B := w.heap.size + 1) (l := adjL n (partR r 0 0)) hrow hz (by omega) (adjL_in n _ hn) (by rw [adjL_length]; unfold maxLen; omega)
  simp only [adjL_length] at hown
  refine ⟨hown.alloc _, ⟨?_, by simp [go_sem], by simp [go_sem]⟩, ?_, ?_, fun k hk => ?_, by omega⟩
  · have := BoxG.new (wr.alloc (.cells (madeCells #[.int .i64 0] n) 3)) 44 n (.slice (some ⟨wr.heap.size, 0, none⟩) n n) ⟨_, _, _, rfl⟩
    simpa using this
  · exact (h1.keep (grown_alloc _ _ none) (by simp)).keep (grown_alloc _ _ none) (by simp)
  · exact (h2.alloc h2.size _).alloc (by have := h2.size; simp; omega) _
  · have : wr.heap.size = k := by simpa [Value.ownBlock] using hk
    omega

end Go.Proofs.Ytgfndgjabhabjaa
