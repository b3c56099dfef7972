/- Slices of slices of ints in walks: rows of the call's own that hold rows of its own. -/
import Derived.Test.YtpifgmmmmhenmabGl
import Derived.StillTailTactics
namespace Go.Proofs.Ytpifgmmmmhenmab
set_option linter.unusedVariables false
set_option linter.unusedSimpArgs false
open Go.RowKit

/-- Only blocks from lo to hi may have turned. -/
structure Only (lo hi : Nat) (w w' : World) : Prop where
  os : w'.os = w.os
  tape : w'.tape = w.tape
  output : w'.output = w.output
  size : w.heap.size ≤ w'.heap.size
  block : ∀ k, k < w.heap.size → (k < lo ∨ hi ≤ k) → w'.heap[k]? = w.heap[k]?

theorem Only.refl (lo hi : Nat) (w : World) : Only lo hi w w := ⟨rfl, rfl, rfl, Nat.le_refl _, fun _ _ _ => rfl⟩

theorem Only.trans {lo hi : Nat} {a b c : World} (h : Only lo hi a b) (k : Only lo hi b c) : Only lo hi a c :=
  ⟨k.os.trans h.os, k.tape.trans h.tape, k.output.trans h.output, Nat.le_trans h.size k.size, fun i hi' hr => (k.block i (Nat.lt_of_lt_of_le hi' h.size) hr).trans (h.block i hi' hr)⟩

theorem Only.of_below {w w' : World} (lo hi : Nat) (h : Below w.heap.size w w') : Only lo hi w w' := ⟨h.os, h.tape, h.output, h.size, fun k hk _ => h.block k hk⟩

theorem Only.of_grown {lo hi : Nat} {w w' : World} {row : Option Nat} (h : w.grownBy w' row) (hr : ∀ k, row = some k → lo ≤ k ∧ k < hi) : Only lo hi w w' :=
  ⟨h.os, h.tape, h.output, h.size, fun k hk hk' => h.block k hk fun e => by have := hr k e.symm; omega⟩

theorem Only.below {lo hi B : Nat} {w w' : World} (h : Only lo hi w w') (hB : B ≤ lo) (hw : B ≤ w.heap.size) : Below B w w' := ⟨h.os, h.tape, h.output, h.size, fun k hk => h.block k (by omega) (.inl (by omega))⟩

theorem Below.only {B lo hi : Nat} {w0 w w' : World} (h : Below B w0 w) (k : Only lo hi w w') (hB : B ≤ lo) (hw : B ≤ w0.heap.size) : Below B w0 w' := h.trans (k.below hB (Nat.le_trans hw h.size))

theorem BoxG.keepO {q : Nat} {n : Int} {v : Value} {w w' : World} {lo hi : Nat} (h : BoxG q n v w) (hg : Only lo hi w w') (hr : q < lo ∨ hi ≤ q) : BoxG q n v w' := by
  have hb := hg.block q h.2.2 hr
  exact ⟨(World.cell?_of_block (a := ⟨q, 0, none⟩) hb).trans h.1, (World.cell?_of_block (a := ⟨q, 1, none⟩) hb).trans h.2.1, Nat.lt_of_lt_of_le h.2.2 hg.size⟩

theorem ownsRow_block {w w' : World} {B size n : Nat} {e : TypeId} {v : Value} {xs : List Value} (h : w.ownsRow B e size v n xs) (hb : ∀ k, v.ownBlock = some k → w'.heap[k]? = w.heap[k]?) : w'.ownsRow B e size v n xs := by
  refine ⟨h.1, ?_⟩
  rcases h.2 with h' | ⟨g, cap, cur, rfl, hB, hk, h2⟩
  · exact .inl h'
  · exact .inr ⟨g, cap, cur, rfl, hB, by rw [hb g rfl]; exact hk, h2⟩

theorem OwnI.block {w w' : World} {B : Nat} {v : Value} {l : List Int} (h : OwnI B w v l) (hb : ∀ k, v.ownBlock = some k → w'.heap[k]? = w.heap[k]?) : OwnI B w' v l := ⟨h.1, ownsRow_block h.2 hb⟩

def elt (vs : List Value) (i : Nat) : Value := vs.getD i undef

def subL (ll : List (List Int)) (i : Nat) : List Int := ll.getD i []

/-- A slice of the call's own whose elements are slices of its own, all blocks from lo to hi. -/
def OwnV (lo hi : Nat) (w : World) (v : Value) (vs : List Value) (ll : List (List Int)) : Prop :=
  vs.length = ll.length ∧ w.ownsRow lo 22 1 v ll.length vs ∧ (∀ i, i < ll.length → OwnI lo w (elt vs i) (subL ll i)) ∧
    (∀ i k, i < ll.length → (elt vs i).ownBlock = some k → k < hi) ∧ (∀ k, v.ownBlock = some k → k < hi) ∧
    (∀ i j k, i < ll.length → j < ll.length → (elt vs i).ownBlock = some k → (elt vs j).ownBlock = some k → i = j)

def OwnII (lo hi : Nat) (w : World) (v : Value) (ll : List (List Int)) : Prop := ∃ vs, OwnV lo hi w v vs ll

theorem OwnV.keep {lo hi a b : Nat} {w w' : World} {v : Value} {vs : List Value} {ll : List (List Int)} (h : OwnV lo hi w v vs ll) (hg : Only a b w w') (hr : hi ≤ a ∨ b ≤ lo) : OwnV lo hi w' v vs ll := by
  obtain ⟨h1, h2, h3, h4, h5, h6⟩ := h
  refine ⟨h1, ownsRow_block h2 fun k hk => ?_, fun i hi' => (h3 i hi').block fun k hk => ?_, h4, h5, h6⟩
  · have := h2.lt k hk
    have := h5 k hk
    exact hg.block k (by omega) (by omega)
  · have := (h3 i hi').lt k hk
    have := h4 i k hi' hk
    exact hg.block k (by omega) (by omega)

theorem OwnII.keep {lo hi a b : Nat} {w w' : World} {v : Value} {ll : List (List Int)} (h : OwnII lo hi w v ll) (hg : Only a b w w') (hr : hi ≤ a ∨ b ≤ lo) : OwnII lo hi w' v ll := by
  obtain ⟨vs, h⟩ := h
  exact ⟨vs, h.keep hg hr⟩

theorem OwnII.keepB {lo hi : Nat} {w w' : World} {v : Value} {ll : List (List Int)} (h : OwnII lo hi w v ll) (hb : Below w.heap.size w w') : OwnII lo hi w' v ll := h.keep (Only.of_below 0 0 hb) (.inr (Nat.zero_le _))

theorem OwnII.keepG {lo hi : Nat} {w w' : World} {v : Value} {ll : List (List Int)} {row : Option Nat} (h : OwnII lo hi w v ll) (hg : w.grownBy w' row) (hr : ∀ k, row = some k → k < lo ∨ hi ≤ k) : OwnII lo hi w' v ll := by
  cases row with
  | none => exact h.keepB ⟨hg.os, hg.tape, hg.output, hg.size, fun k hk => hg.block k hk (by simp)⟩
  | some r =>
    have := hr r rfl
    exact h.keep (Only.of_grown (lo := r) (hi := r + 1) hg fun k e => by have := Option.some.inj e; omega) (by omega)

theorem inner_ne {lo lo' n : Nat} {w : World} {u v : Value} {l : List Int} {vs : List Value} (h : OwnI lo w u l) (ho : w.ownsRow lo' 22 1 v n vs) : ∀ k, u.ownBlock = some k → v.ownBlock ≠ some k := by
  intro k hk hk'
  rcases h.2.2 with ⟨rfl, _⟩ | ⟨g, cap, cur, rfl, _, h1, _⟩
  · simp [Value.ownBlock] at hk
  · rcases ho.2 with ⟨rfl, _⟩ | ⟨g', cap', cur', rfl, _, h2, _⟩
    · simp [Value.ownBlock] at hk'
    · obtain rfl : g = k := by simpa [Value.ownBlock] using hk
      obtain rfl : g' = g := by simpa [Value.ownBlock] using hk'
      rw [h1] at h2
      simp at h2

theorem subL_set (ll : List (List Int)) (i j : Nat) (l : List Int) (h : i < ll.length) : subL (ll.set i l) j = if j = i then l else subL ll j := by
  simp only [subL, List.getD, List.getElem?_set]
  by_cases e : j = i
  · subst e; simp [h]
  · have e' : ¬ i = j := fun h => e h.symm
    simp [e, e']

theorem OwnV.set {lo hi i : Nat} {w w' : World} {v : Value} {vs : List Value} {ll : List (List Int)} {l : List Int} (h : OwnV lo hi w v vs ll) (hlt : i < ll.length) (hg : w.grownBy w' (elt vs i).ownBlock) (hn : OwnI lo w' (elt vs i) l) :
    OwnV lo hi w' v vs (ll.set i l) ∧ Only lo hi w w' := by
  obtain ⟨h1, h2, h3, h4, h5, h6⟩ := h
  refine ⟨⟨by simpa using h1, ?_, fun j hj => ?_, fun j k hj => h4 j k (by simpa using hj), h5, fun a b k ha hb => h6 a b k (by simpa using ha) (by simpa using hb)⟩, Only.of_grown hg fun k hk => ⟨((h3 i hlt).lt k hk).1, h4 i k hlt hk⟩⟩
  · rw [List.length_set]
    refine h2.kept hg ?_
    cases hv : v.ownBlock with
    | none => exact .inl rfl
    | some k => exact .inr fun e => inner_ne (h3 i hlt) h2 k e.symm hv
  · rw [List.length_set] at hj
    rw [subL_set ll i j l hlt]
    by_cases e : j = i
    · subst e; rw [if_pos rfl]; exact hn
    · rw [if_neg e]
      refine (h3 j hj).block fun k hk => hg.block k ((h3 j hj).lt k hk).2 fun e' => ?_
      exact e (h6 j i k hj hlt hk e'.symm)

theorem OwnV.form {lo hi : Nat} {w : World} {v : Value} {vs : List Value} {ll : List (List Int)} (h : OwnV lo hi w v vs ll) : (v = .slice none 0 0 ∧ ll = []) ∨ ∃ g cap, v = .slice (some ⟨g, 0, none⟩) ll.length cap ∧ g < w.heap.size ∧ ll.length ≤ cap ∧ cap ≤ maxLen ∧
    (∀ j, j < ll.length → w.cell? ⟨g, j, none⟩ = some (elt vs j)) := by
  obtain ⟨h1, h2, -⟩ := h
  rcases h2.2 with ⟨hv, hn⟩ | ⟨g, cap, cur, hv, hg, hk, hl, hm, hs, ht⟩
  · exact .inl ⟨hv, List.eq_nil_of_length_eq_zero hn⟩
  · subst hv
    have hlt := h2.lt g rfl
    refine .inr ⟨g, cap, rfl, hlt.2, hl, hm, fun j hj => ?_⟩
    have := h2.cellAt j (by omega)
    rw [this]
    simp [elt, List.getD, List.getElem?_eq_getElem (show j < vs.length by omega)]

theorem OwnV.nil (lo hi : Nat) (w : World) : OwnV lo hi w (.slice none 0 0) [] [] := ⟨rfl, ⟨rfl, .inl ⟨rfl, rfl⟩⟩, fun i h => by simp at h, fun i k h => by simp at h, fun k h => by simp [Value.ownBlock] at h, fun i j k h => by simp at h⟩

def tot : List (List Int) → Nat
  | [] => 0
  | l :: t => l.length + tot t

theorem tot_take_succ (ll : List (List Int)) (j : Nat) (h : j < ll.length) : tot (ll.take (j + 1)) = tot (ll.take j) + (subL ll j).length := by
  induction ll generalizing j with
  | nil => simp at h
  | cons l t ih =>
    cases j with
    | zero => simp [tot, subL]
    | succ j =>
      have := ih j (by simpa using h)
      simp only [List.take_succ_cons, tot]
      rw [this]
      simp [subL]
      omega

theorem tot_take_le (ll : List (List Int)) (j : Nat) : tot (ll.take j) ≤ tot ll := by
  induction ll generalizing j with
  | nil => simp
  | cons l t ih =>
    cases j with
    | zero => simp [tot]
    | succ j =>
      have := ih j
      simp only [List.take_succ_cons, tot]
      omega

theorem sub_le_tot (ll : List (List Int)) (j : Nat) (h : j < ll.length) : tot (ll.take j) + (subL ll j).length ≤ tot ll := by
  rw [← tot_take_succ ll j h]
  exact tot_take_le ll _

/-- M is ll, marked from k on. -/
def Marked (k : Int) (ll M : List (List Int)) : Prop := M.length = ll.length ∧ ∀ j, j < ll.length → subL M j = marks (k + tot (ll.take j)) (subL ll j).length

end Go.Proofs.Ytpifgmmmmhenmab
