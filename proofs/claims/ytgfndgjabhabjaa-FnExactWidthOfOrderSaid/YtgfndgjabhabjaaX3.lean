/- GraphOfTree: plain facts, and the program's. -/
import Derived.Test.YtgfndgjabhabjaaX2
import Derived.Test.YtgfndgjabhabjaaN1
import Derived.Test.YtgfndgjabhabjaaY10
import Derived.Test.YtgfndgjabhabjaaM8
import Derived.Deep.CutRange
namespace Go.Proofs.Ytgfndgjabhabjaa
set_option linter.unusedVariables false
set_option linter.unusedSimpArgs false
open Go.RowKit

/-- The edges when all in each of the first k bags are joined. -/
def treeE (l : List Int) : Nat → Nat → Nat → Bool
  | 0 => fun _ _ => false
  | k + 1 => joinP (treeE l k) (nth l k).toNat

theorem treeE_sym (N : Nat) (l : List Int) : ∀ k, Sym N (treeE l k)
  | 0 => ⟨fun _ _ _ _ => rfl, fun _ _ => rfl⟩
  | k + 1 => joinP_sym (treeE_sym N l k) _

def GtP (l m : List Int) (x : Int) : Prop := TreeP l m ∧ (1 ≤ x ∧ x ≤ 7) ∧ ∀ i, i < l.length → nth l i < 2 ^ x.toNat

instance (l m : List Int) (x : Int) : Decidable (GtP l m x) := by unfold GtP; infer_instance

def gtN (l m : List Int) (x : Int) : Int := if GtP l m x then x else 0
def gtL (l m : List Int) (x : Int) : List Int := if GtP l m x then adjL x.toNat (treeE l l.length) else []

theorem gtL_length (l m : List Int) (x : Int) : (gtL l m x).length ≤ 7 := by
  unfold gtL
  split
  · rename_i h
    rw [adjL_length]
    have := h.2.1.2
    omega
  · simp

theorem gt_no {l m : List Int} {x : Int} (h : ¬ GtP l m x) : gtN l m x = 0 ∧ gtL l m x = [] ∧ decide (GtP l m x) = false := by
  unfold gtN gtL
  rw [if_neg h, if_neg h]
  exact ⟨rfl, rfl, decide_eq_false h⟩

theorem gt_yes {l m : List Int} {N : Nat} (h : GtP l m N) : gtN l m N = N ∧ gtL l m N = adjL N (treeE l l.length) ∧ decide (GtP l m N) = true := by
  unfold gtN gtL
  rw [if_pos h, if_pos h]
  exact ⟨rfl, rfl, decide_eq_true h⟩

theorem adj_empty (n : Nat) : adjL n (symR (namR 5 n)) = adjL n (treeE [] 0) := adjL_congr n _ _ fun i _ j _ => by
  unfold symR namR treeE
  split
  · rfl
  · split <;> rfl

theorem CurQ.start {w0 w2 : World} {N : Nat} {L : List Int} {v : Value} (ho : OwnI (w0.heap.size + 1) w2 v L) (hbl : Blank w0.heap.size w2) (hB : Below w0.heap.size w0 w2) (T : TypeId) :
    CurQ w0 w2.heap.size N L v (w2.alloc (.cells #[.int .i64 N, v] T)) := by
  have hlt := hbl.2.2.2.2
  refine ⟨ho.alloc _, ⟨⟨?_, ?_, ?_⟩, by simp [go_sem], by simp [go_sem]⟩, hbl.keep (grown_alloc _ _ none) (by simp), hB.alloc hB.size _, fun k hk => ?_, hlt⟩
  · simp [go_sem]
  · obtain ⟨a, cap, rfl, -, -⟩ := ho.ints.form
    simp [go_sem]
  · simp
  · have := (ho.lt k hk).2
    omega

theorem CurQ.joined {w0 wr w' : World} {q N g cap : Nat} {L L' : List Int} (h : CurQ w0 q N L (.slice (some ⟨g, 0, none⟩) N cap) wr) (ho : OwnI (w0.heap.size + 1) w' (.slice (some ⟨g, 0, none⟩) N cap) L') (hg : wr.grownBy w' (some g)) :
    CurQ w0 q N L' (.slice (some ⟨g, 0, none⟩) N cap) w' := by
  obtain ⟨h1, h2, h3, h4, h5, h6⟩ := h
  have hgq := h5 g rfl
  have hgl := (h1.lt g rfl).1
  exact ⟨ho, h2.keep hg (by simp; exact hgq), h3.keep hg (by simp; omega), h4.grown hg h4.size (fun k hk => by have := Option.some.inj hk; omega), h5, h6⟩

end Go.Proofs.Ytgfndgjabhabjaa
