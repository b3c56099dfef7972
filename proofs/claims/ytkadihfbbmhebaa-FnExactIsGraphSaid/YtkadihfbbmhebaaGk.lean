/- Slices of ints in walks, over any program: what a slice reads, rows of the call's own, all that has not turned. -/
import Derived.Test.YtkadihfbbmhebaaKit
import Derived.Deep.OwnRows
import Derived.Lib.SmallJoins
namespace Go.Proofs.Ytkadihfbbmhebaa
open Go.RowKit

def nth (l : List Int) (i : Nat) : Int := l.getD i 0

def inI64 (l : List Int) : Prop := ∀ x ∈ l, -9223372036854775808 ≤ x ∧ x ≤ 9223372036854775807

theorem nth_mem (l : List Int) (i : Nat) (h : i < l.length) : nth l i ∈ l := by
  simp [nth, List.getD, h]

theorem nth_in {l : List Int} (h : inI64 l) (i : Nat) : -9223372036854775808 ≤ nth l i ∧ nth l i ≤ 9223372036854775807 := by
  rcases Nat.lt_or_ge i l.length with hi | hi
  · exact h _ (nth_mem l i hi)
  · have : nth l i = 0 := by simp [nth, List.getD, List.getElem?_eq_none hi]
    omega

theorem inI64_nil : inI64 [] := fun x hx => by cases hx

theorem inI64_append {l m : List Int} (h : inI64 l) (k : inI64 m) : inI64 (l ++ m) := fun x hx => (List.mem_append.1 hx).elim (h x) (k x)

theorem inI64_one {x : Int} (h0 : -9223372036854775808 ≤ x) (h1 : x ≤ 9223372036854775807) : inI64 [x] := fun y hy => by simp at hy; subst hy; exact ⟨h0, h1⟩

theorem nth_append_lt (l m : List Int) (i : Nat) (h : i < l.length) : nth (l ++ m) i = nth l i := by simp [nth, List.getD, List.getElem?_append_left h]

theorem nth_append_len (l : List Int) (x : Int) : nth (l ++ [x]) l.length = x := by simp [nth, List.getD]

theorem list_ext_nth {l m : List Int} (hl : l.length = m.length) (h : ∀ i, i < l.length → nth l i = nth m i) : l = m := by
  refine List.ext_getElem hl fun i h1 h2 => ?_
  have := h i h1
  simpa [nth, List.getD, h1, h2] using this

/-- A slice that reads as l. -/
def Ints (w : World) (v : Value) (l : List Int) : Prop :=
  inI64 l ∧ ∃ a cap, v = .slice a l.length cap ∧ l.length ≤ cap ∧ cap ≤ maxLen ∧
    (l = [] ∨ ∃ b off, a = some ⟨b, off, none⟩ ∧ b < w.heap.size ∧ ∀ j, j < l.length → w.cell? ⟨b, off + j, none⟩ = some (.int .i64 (nth l j)))

theorem Ints.below {w w' : World} {v : Value} {l : List Int} {B : Nat} (h : Ints w v l) (hb : Below B w w') (hB : w.heap.size ≤ B) : Ints w' v l := by
  obtain ⟨h0, a, cap, rfl, hc, hm, h⟩ := h
  refine ⟨h0, a, cap, rfl, hc, hm, ?_⟩
  rcases h with h | ⟨b, off, rfl, hlt, hcell⟩
  · exact .inl h
  · exact .inr ⟨b, off, rfl, Nat.lt_of_lt_of_le hlt hb.size, fun j hj => (hb.cell (p := ⟨b, off + j, none⟩) (by show b < B; omega)).trans (hcell j hj)⟩

theorem Ints.on {w w' : World} {v : Value} {l : List Int} (h : Ints w v l) (hb : Below w.heap.size w w') : Ints w' v l := h.below hb (Nat.le_refl _)

theorem Ints.alloc {w : World} {v : Value} {l : List Int} (h : Ints w v l) (o : Obj) : Ints (w.alloc o) v l := h.on ((Below.refl _ _).alloc (Nat.le_refl _) _)

theorem Ints.form {w : World} {v : Value} {l : List Int} (h : Ints w v l) : ∃ a cap, v = .slice a l.length cap ∧ l.length ≤ cap ∧ cap ≤ maxLen := by
  obtain ⟨_, a, cap, h1, h2, h3, _⟩ := h
  exact ⟨a, cap, h1, h2, h3⟩

theorem Ints.some {w : World} {v : Value} {l : List Int} (h : Ints w v l) (hl : 0 < l.length) : ∃ b off cap, v = .slice (some ⟨b, off, none⟩) l.length cap ∧ l.length ≤ cap ∧ cap ≤ maxLen ∧ b < w.heap.size ∧ ∀ j, j < l.length → w.cell? ⟨b, off + j, none⟩ = some (.int .i64 (nth l j)) := by
  obtain ⟨_, a, cap, rfl, h2, h3, h⟩ := h
  rcases h with rfl | ⟨b, off, rfl, hlt, hc⟩
  · simp at hl
  · exact ⟨b, off, cap, rfl, h2, h3, hlt, hc⟩

theorem Ints.nil (w : World) : Ints w (.slice none 0 0) [] := ⟨inI64_nil, none, 0, rfl, Nat.le_refl _, by simp [maxLen], .inl rfl⟩

/-- The cells of ints. -/
def iv (l : List Int) : List Value := l.map (Value.int .i64)

theorem iv_length (l : List Int) : (iv l).length = l.length := by simp [iv]

theorem iv_get (l : List Int) (j : Nat) (h : j < l.length) : (iv l)[j]? = some (.int .i64 (nth l j)) := by simp [iv, nth, List.getD, h]

theorem iv_snoc (l : List Int) (x : Int) : iv l ++ [Value.int .i64 x] = iv (l ++ [x]) := by simp [iv]

/-- A slice of the call's own that reads as l, its block at B or beyond. -/
def OwnI (B : Nat) (w : World) (v : Value) (l : List Int) : Prop := inI64 l ∧ w.ownsRow B 3 1 v l.length (iv l)

theorem OwnI.ints {B : Nat} {w : World} {v : Value} {l : List Int} (h : OwnI B w v l) : Ints w v l := by
  obtain ⟨h0, h⟩ := h
  rcases h.2 with ⟨hv, hn⟩ | ⟨g, cap, cur, hv, hg, hk, hl, hm, hs, ht⟩
  · have : l = [] := List.eq_nil_of_length_eq_zero hn
    subst this; subst hv
    exact Ints.nil w
  · refine ⟨h0, _, cap, hv, hl, hm, .inr ⟨g, 0, rfl, ?_, fun j hj => ?_⟩⟩
    · rcases Nat.lt_or_ge g w.heap.size with h' | h'
      · exact h'
      · simp [Array.getElem?_eq_none h'] at hk
    · subst hv
      have := h.cellAt j (by omega)
      rw [iv_get l j hj] at this
      simpa using this

theorem OwnI.mono {B B' : Nat} {w : World} {v : Value} {l : List Int} (h : OwnI B w v l) (hB : B' ≤ B) : OwnI B' w v l := ⟨h.1, Go.Joins.ownsRow_le h.2 hB⟩

theorem OwnI.on {B : Nat} {w w' : World} {v : Value} {l : List Int} (h : OwnI B w v l) (hb : Below w.heap.size w w') : OwnI B w' v l := by
  refine ⟨h.1, h.2.kept (row := none) ⟨hb.os, hb.tape, hb.output, hb.size, fun i hi _ => hb.block i hi⟩ ?_⟩
  cases hv : v.ownBlock with
  | none => exact .inl rfl
  | some k => exact .inr (by simp)

theorem OwnI.lt {B : Nat} {w : World} {v : Value} {l : List Int} (h : OwnI B w v l) : ∀ k, v.ownBlock = some k → B ≤ k ∧ k < w.heap.size := h.2.lt

theorem OwnI.of_row {B b : Nat} {w : World} {l : List Int} {f : Nat → Value} (hr : w.rowIs b 3 l.length f) (hf : ∀ i, i < l.length → f i = .int .i64 (nth l i)) (hB : B ≤ b) (hin : inI64 l) (hm : l.length ≤ maxLen) :
    OwnI B w (.slice (some ⟨b, 0, none⟩) l.length l.length) l := by
  obtain ⟨c, hb, hn, hc⟩ := hr
  refine ⟨hin, by simp [iv], .inr ⟨b, l.length, c, rfl, hB, hb, Nat.le_refl _, hm, by simpa using hn, ?_⟩⟩
  refine List.ext_getElem? fun i => ?_
  by_cases hi : i < l.length
  · rw [iv_get l i hi, List.getElem?_take_of_lt (by omega), Array.getElem?_toList, hc i hi, hf i hi]
  · rw [List.getElem?_eq_none (by simp [hn]; omega), List.getElem?_eq_none (by simp [iv]; omega)]

theorem OwnI.set {B g cap : Nat} {w : World} {l : List Int} (h : OwnI B w (.slice (some ⟨g, 0, none⟩) l.length cap) l) (j : Nat) (x : Int) (h0 : -9223372036854775808 ≤ x) (h1 : x ≤ 9223372036854775807) :
    OwnI B (w.setCell ⟨g, j, none⟩ (.int .i64 x)) (.slice (some ⟨g, 0, none⟩) l.length cap) (l.set j x) ∧ w.grownBy (w.setCell ⟨g, j, none⟩ (.int .i64 x)) (some g) := by
  have hs := h.2.stored j (.int .i64 x)
  refine ⟨⟨fun y hy => ?_, ?_⟩, hs.2⟩
  · rcases List.mem_or_eq_of_mem_set hy with hy | rfl
    · exact h.1 y hy
    · exact ⟨h0, h1⟩
  · have := hs.1
    rw [show (iv l).set j (.int .i64 x) = iv (l.set j x) by simp [iv, List.map_set]] at this
    simpa using this

theorem OwnI.form {B : Nat} {w : World} {v : Value} {l : List Int} (h : OwnI B w v l) : (v = .slice none 0 0 ∧ l = []) ∨ ∃ g cap, v = .slice (some ⟨g, 0, none⟩) l.length cap ∧ B ≤ g ∧ g < w.heap.size ∧ l.length ≤ cap ∧ cap ≤ maxLen ∧
    (∀ j, j < l.length → w.cell? ⟨g, j, none⟩ = some (.int .i64 (nth l j))) ∧ ∀ j, w.frozen? ⟨g, j, none⟩ = false := by
  obtain ⟨h0, h⟩ := h
  rcases h.2 with ⟨hv, hn⟩ | ⟨g, cap, cur, hv, hg, hk, hl, hm, hs, ht⟩
  · exact .inl ⟨hv, List.eq_nil_of_length_eq_zero hn⟩
  · subst hv
    have hlt := h.lt g rfl
    refine .inr ⟨g, cap, rfl, hg, hlt.2, hl, hm, fun j hj => ?_, fun j => h.frozenAt j⟩
    have := h.cellAt j (by omega)
    rw [iv_get l j hj] at this
    exact this

theorem nth_set (l : List Int) (j : Nat) (x : Int) (i : Nat) (h : j < l.length) : nth (l.set j x) i = if i = j then x else nth l i := by
  simp only [nth, List.getD, List.getElem?_set]
  by_cases e : i = j
  · subst e; simp [h]
  · have e' : ¬ j = i := fun h => e h.symm
    simp [e, e']

theorem OwnI.kept {B : Nat} {w w' : World} {v : Value} {l : List Int} {row : Option Nat} (h : OwnI B w v l) (hg : w.grownBy w' row) (hne : v.ownBlock = none ∨ v.ownBlock ≠ row) : OwnI B w' v l := ⟨h.1, h.2.kept hg hne⟩

theorem OwnI.setBelow {B : Nat} {w : World} {v : Value} {l : List Int} (h : OwnI B w v l) {a : Addr} (ha : a.block < B) (u : Value) : OwnI B (w.setCell a u) v l := ⟨h.1, ownsRow_setCell_below h.2 ha u⟩

theorem OwnI.alloc {B : Nat} {w : World} {v : Value} {l : List Int} (h : OwnI B w v l) (o : Obj) : OwnI B (w.alloc o) v l := ⟨h.1, h.2.alloc o⟩

/-- The frame behind a store into a row from B on. -/
theorem grown_below {B : Nat} {w w' : World} {row : Option Nat} (h : w.grownBy w' row) (hr : ∀ k, row = some k → B ≤ k) (hB : B ≤ w.heap.size) : Below B w w' := (Below.refl B w).grown h hB hr

theorem grown_alloc (w : World) (o : Obj) (row : Option Nat) : w.grownBy (w.alloc o) row := ⟨rfl, rfl, rfl, by simp, fun k hk _ => Below.heap_alloc w o k hk⟩

theorem grown_trans {a b c : World} {row : Option Nat} (h : a.grownBy b row) (k : b.grownBy c row) : a.grownBy c row :=
  ⟨k.os.trans h.os, k.tape.trans h.tape, k.output.trans h.output, Nat.le_trans h.size k.size, fun i hi hr => (k.block i (Nat.lt_of_lt_of_le hi h.size) hr).trans (h.block i hi hr)⟩

end Go.Proofs.Ytkadihfbbmhebaa
