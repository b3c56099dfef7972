/- Slices of ints in walks, over any program: what a slice reads, rows of the call's own, all that has not turned. -/
import Derived.Test.YtpifgmmmmhenmabKit
import Derived.Deep.OwnRows
import Derived.Lib.SmallJoins
import Derived.Laws.AppendOwnNone
import Derived.Laws.CopyOwn
namespace Go.Proofs.Ytpifgmmmmhenmab
set_option linter.unusedVariables false
set_option linter.unusedSimpArgs false
open Go.RowKit

def nth (l : List Int) (i : Nat) : Int := l.getD i 0

def inI64 (l : List Int) : Prop := ∀ x ∈ l, -9223372036854775808 ≤ x ∧ x ≤ 9223372036854775807

theorem nth_mem (l : List Int) (i : Nat) (h : i < l.length) : nth l i ∈ l := by
  simp [nth, List.getD, h]

theorem nth_in {l : List Int} (h : inI64 l) (i : Nat) : -9223372036854775808 ≤ nth l i ∧ nth l i ≤ 9223372036854775807 := by
  rcases Nat.lt_or_ge i l.length with hi | hi
  · exact h _ (nth_mem l i hi)
  · have : nth l i = 0 := by simp [nth, List.getD, List.getElem?_eq_none hi]
    omega

theorem inI64_nil : inI64 [] := fun x hx => by cases hx

theorem inI64_append {l m : List Int} (h : inI64 l) (k : inI64 m) : inI64 (l ++ m) := fun x hx => (List.mem_append.1 hx).elim (h x) (k x)

theorem inI64_one {x : Int} (h0 : -9223372036854775808 ≤ x) (h1 : x ≤ 9223372036854775807) : inI64 [x] := fun y hy => by simp at hy; subst hy; exact ⟨h0, h1⟩

theorem nth_append_lt (l m : List Int) (i : Nat) (h : i < l.length) : nth (l ++ m) i = nth l i := by simp [nth, List.getD, List.getElem?_append_left h]

theorem nth_append_len (l : List Int) (x : Int) : nth (l ++ [x]) l.length = x := by simp [nth, List.getD]

theorem list_ext_nth {l m : List Int} (hl : l.length = m.length) (h : ∀ i, i < l.length → nth l i = nth m i) : l = m := by
  refine List.ext_getElem hl fun i h1 h2 => ?_
  have := h i h1
  simpa [nth, List.getD, h1, h2] using this

/-- A slice that reads as l. -/
def Ints (w : World) (v : Value) (l : List Int) : Prop :=
  inI64 l ∧ ∃ a cap, v = .slice a l.length cap ∧ l.length ≤ cap ∧ cap ≤ maxLen ∧
    (l = [] ∨ ∃ b off, a = some ⟨b, off, none⟩ ∧ b < w.heap.size ∧ ∀ j, j < l.length → w.cell? ⟨b, off + j, none⟩ = some (.int .i64 (nth l j)))

theorem Ints.below {w w' : World} {v : Value} {l : List Int} {B : Nat} (h : Ints w v l) (hb : Below B w w') (hB : w.heap.size ≤ B) : Ints w' v l := by
  obtain ⟨h0, a, cap, rfl, hc, hm, h⟩ := h
  refine ⟨h0, a, cap, rfl, hc, hm, ?_⟩
  rcases h with h | ⟨b, off, rfl, hlt, hcell⟩
  · exact .inl h
  · exact .inr ⟨b, off, rfl, Nat.lt_of_lt_of_le hlt hb.size, fun j hj => (hb.cell (p := ⟨b, off + j, none⟩) (by show b < B; omega)).trans (hcell j hj)⟩

theorem Ints.on {w w' : World} {v : Value} {l : List Int} (h : Ints w v l) (hb : Below w.heap.size w w') : Ints w' v l := h.below hb (Nat.le_refl _)

theorem Ints.alloc {w : World} {v : Value} {l : List Int} (h : Ints w v l) (o : Obj) : Ints (w.alloc o) v l := h.on ((Below.refl _ _).alloc (Nat.le_refl _) _)

theorem Ints.form {w : World} {v : Value} {l : List Int} (h : Ints w v l) : ∃ a cap, v = .slice a l.length cap ∧ l.length ≤ cap ∧ cap ≤ maxLen := by
  obtain ⟨_, a, cap, h1, h2, h3, _⟩ := h
  exact ⟨a, cap, h1, h2, h3⟩

theorem Ints.pos {w : World} {v : Value} {l : List Int} (h : Ints w v l) (hl : 0 < l.length) : ∃ b off cap, v = .slice (some ⟨b, off, none⟩) l.length cap ∧ l.length ≤ cap ∧ cap ≤ maxLen ∧ b < w.heap.size ∧ ∀ j, j < l.length → w.cell? ⟨b, off + j, none⟩ = some (.int .i64 (nth l j)) := by
  obtain ⟨_, a, cap, rfl, h2, h3, h⟩ := h
  rcases h with rfl | ⟨b, off, rfl, hlt, hc⟩
  · simp at hl
  · exact ⟨b, off, cap, rfl, h2, h3, hlt, hc⟩

theorem Ints.nil (w : World) : Ints w (.slice none 0 0) [] := ⟨inI64_nil, none, 0, rfl, Nat.le_refl _, by simp [maxLen], .inl rfl⟩

/-- The cells of ints. -/
def iv (l : List Int) : List Value := l.map (Value.int .i64)

theorem iv_length (l : List Int) : (iv l).length = l.length := by simp [iv]

theorem iv_get (l : List Int) (j : Nat) (h : j < l.length) : (iv l)[j]? = some (.int .i64 (nth l j)) := by simp [iv, nth, List.getD, h]

theorem iv_snoc (l : List Int) (x : Int) : iv l ++ [Value.int .i64 x] = iv (l ++ [x]) := by simp [iv]

/-- A slice of the call's own that reads as l, its block at B or beyond. -/
def OwnI (B : Nat) (w : World) (v : Value) (l : List Int) : Prop := inI64 l ∧ w.ownsRow B 3 1 v l.length (iv l)

theorem OwnI.ints {B : Nat} {w : World} {v : Value} {l : List Int} (h : OwnI B w v l) : Ints w v l := by
  obtain ⟨h0, h⟩ := h
  rcases h.2 with ⟨hv, hn⟩ | ⟨g, cap, cur, hv, hg, hk, hl, hm, hs, ht⟩
  · have : l = [] := List.eq_nil_of_length_eq_zero hn
    subst this; subst hv
    exact Ints.nil w
  · refine ⟨h0, _, cap, hv, hl, hm, .inr ⟨g, 0, rfl, ?_, fun j hj => ?_⟩⟩
    · rcases Nat.lt_or_ge g w.heap.size with h' | h'
      · exact h'
      · simp [Array.getElem?_eq_none h'] at hk
    · subst hv
      have := h.cellAt j (by omega)
      rw [iv_get l j hj] at this
      simpa using this

theorem OwnI.mono {B B' : Nat} {w : World} {v : Value} {l : List Int} (h : OwnI B w v l) (hB : B' ≤ B) : OwnI B' w v l := ⟨h.1, Go.Joins.ownsRow_le h.2 hB⟩

theorem OwnI.on {B : Nat} {w w' : World} {v : Value} {l : List Int} (h : OwnI B w v l) (hb : Below w.heap.size w w') : OwnI B w' v l := by
  refine ⟨h.1, h.2.kept (row := none) ⟨hb.os, hb.tape, hb.output, hb.size, fun i hi _ => hb.block i hi⟩ ?_⟩
  cases hv : v.ownBlock with
  | none => exact .inl rfl
  | some k => exact .inr (by simp)

theorem OwnI.lt {B : Nat} {w : World} {v : Value} {l : List Int} (h : OwnI B w v l) : ∀ k, v.ownBlock = some k → B ≤ k ∧ k < w.heap.size := h.2.lt

theorem OwnI.of_row {B b : Nat} {w : World} {l : List Int} {f : Nat → Value} (hr : w.rowIs b 3 l.length f) (hf : ∀ i, i < l.length → f i = .int .i64 (nth l i)) (hB : B ≤ b) (hin : inI64 l) (hm : l.length ≤ maxLen) :
    OwnI B w (.slice (some ⟨b, 0, none⟩) l.length l.length) l := by
  obtain ⟨c, hb, hn, hc⟩ := hr
  refine ⟨hin, by simp [iv], .inr ⟨b, l.length, c, rfl, hB, hb, Nat.le_refl _, hm, by simpa using hn, ?_⟩⟩
  refine List.ext_getElem? fun i => ?_
  by_cases hi : i < l.length
  · rw [iv_get l i hi, List.getElem?_take_of_lt (by omega), Array.getElem?_toList, hc i hi, hf i hi]
  · rw [List.getElem?_eq_none (by simp [hn]; omega), List.getElem?_eq_none (by simp [iv]; omega)]

theorem OwnI.set {B g cap : Nat} {w : World} {l : List Int} (h : OwnI B w (.slice (some ⟨g, 0, none⟩) l.length cap) l) (j : Nat) (x : Int) (h0 : -9223372036854775808 ≤ x) (h1 : x ≤ 9223372036854775807) :
    OwnI B (w.setCell ⟨g, j, none⟩ (.int .i64 x)) (.slice (some ⟨g, 0, none⟩) l.length cap) (l.set j x) ∧ w.grownBy (w.setCell ⟨g, j, none⟩ (.int .i64 x)) (some g) := by
  have hs := h.2.stored j (.int .i64 x)
  refine ⟨⟨fun y hy => ?_, ?_⟩, hs.2⟩
  · rcases List.mem_or_eq_of_mem_set hy with hy | rfl
    · exact h.1 y hy
    · exact ⟨h0, h1⟩
  · have := hs.1
    rw [show (iv l).set j (.int .i64 x) = iv (l.set j x) by simp [iv, List.map_set]] at this
    simpa using this

theorem OwnI.form {B : Nat} {w : World} {v : Value} {l : List Int} (h : OwnI B w v l) : (v = .slice none 0 0 ∧ l = []) ∨ ∃ g cap, v = .slice (some ⟨g, 0, none⟩) l.length cap ∧ B ≤ g ∧ g < w.heap.size ∧ l.length ≤ cap ∧ cap ≤ maxLen ∧
    (∀ j, j < l.length → w.cell? ⟨g, j, none⟩ = some (.int .i64 (nth l j))) ∧ ∀ j, w.frozen? ⟨g, j, none⟩ = false := by
  obtain ⟨h0, h⟩ := h
  rcases h.2 with ⟨hv, hn⟩ | ⟨g, cap, cur, hv, hg, hk, hl, hm, hs, ht⟩
  · exact .inl ⟨hv, List.eq_nil_of_length_eq_zero hn⟩
  · subst hv
    have hlt := h.lt g rfl
    refine .inr ⟨g, cap, rfl, hg, hlt.2, hl, hm, fun j hj => ?_, fun j => h.frozenAt j⟩
    have := h.cellAt j (by omega)
    rw [iv_get l j hj] at this
    exact this

theorem nth_set (l : List Int) (j : Nat) (x : Int) (i : Nat) (h : j < l.length) : nth (l.set j x) i = if i = j then x else nth l i := by
  simp only [nth, List.getD, List.getElem?_set]
  by_cases e : i = j
  · subst e; simp [h]
  · have e' : ¬ j = i := fun h => e h.symm
    simp [e, e']

theorem OwnI.kept {B : Nat} {w w' : World} {v : Value} {l : List Int} {row : Option Nat} (h : OwnI B w v l) (hg : w.grownBy w' row) (hne : v.ownBlock = none ∨ v.ownBlock ≠ row) : OwnI B w' v l := ⟨h.1, h.2.kept hg hne⟩

theorem OwnI.setBelow {B : Nat} {w : World} {v : Value} {l : List Int} (h : OwnI B w v l) {a : Addr} (ha : a.block < B) (u : Value) : OwnI B (w.setCell a u) v l := ⟨h.1, ownsRow_setCell_below h.2 ha u⟩

theorem OwnI.alloc {B : Nat} {w : World} {v : Value} {l : List Int} (h : OwnI B w v l) (o : Obj) : OwnI B (w.alloc o) v l := ⟨h.1, h.2.alloc o⟩

/-- The frame behind a store into a row from B on. -/
theorem grown_below {B : Nat} {w w' : World} {row : Option Nat} (h : w.grownBy w' row) (hr : ∀ k, row = some k → B ≤ k) (hB : B ≤ w.heap.size) : Below B w w' := (Below.refl B w).grown h hB hr

theorem grown_alloc (w : World) (o : Obj) (row : Option Nat) : w.grownBy (w.alloc o) row := ⟨rfl, rfl, rfl, by simp, fun k hk _ => Below.heap_alloc w o k hk⟩

theorem grown_trans {a b c : World} {row : Option Nat} (h : a.grownBy b row) (k : b.grownBy c row) : a.grownBy c row :=
  ⟨k.os.trans h.os, k.tape.trans h.tape, k.output.trans h.output, Nat.le_trans h.size k.size, fun i hi hr => (k.block i (Nat.lt_of_lt_of_le hi h.size) hr).trans (h.block i hi hr)⟩

theorem iv_append (l m : List Int) : iv l ++ iv m = iv (l ++ m) := by simp [iv]

theorem iv_oneCell (l : List Int) : ∀ u ∈ iv l, u.oneCell' = true := ints_oneCell .i64 l

theorem addr_add (b off j : Nat) : (⟨b, off, none⟩ : Addr).add j = ⟨b, off + j, none⟩ := by
  by_cases h : j = 0
  · subst h; rfl
  · simp [Addr.add, h]

theorem Ints.news {w : World} {ad : Addr} {cap : Nat} {l : List Int} (h : Ints w (.slice (some ad) l.length cap) l) : ∀ j u, (iv l)[j]? = some u → w.cell? (ad.add j) = some u := by
  intro j u hu
  have hj : j < l.length := by have := (List.getElem?_eq_some_iff.1 hu).1; simpa [iv] using this
  obtain ⟨b, off, cap', hv, _, _, _, hc⟩ := h.pos (by omega)
  simp only [Value.slice.injEq, Option.some.injEq] at hv
  obtain ⟨rfl, -, -⟩ := hv
  rw [addr_add, hc j hj, ← hu, iv_get l j hj]

theorem Ints.none_nil {w : World} {len cap : Nat} {l : List Int} (h : Ints w (.slice none len cap) l) : l = [] := by
  obtain ⟨_, a, cap', hv, _, _, h⟩ := h
  rcases h with h | ⟨b, off, rfl, -, -⟩
  · exact h
  · simp at hv

/-- append(s, x...), ints both, s the call's own: one step of a region that draws its order. -/
theorem wp_append_ints {P : Program} {K : Act → World → Prop} {Q : Exit → Act → World → Prop} {o : Oper} {a : Act} {w : World} (s x : Operand) (t : TypeId)
    (ho : o.op = .call { callee := .builtin .append, args := #[s, x], argTypes := #[t, t] }) (B : Nat) (i : TypeInfo) (ht : P.underlying t = some (.slice 3)) (hi : P.info? 3 = some i)
    (hz : i.zero = some (.int .i64 0)) (hsize : i.size = 1) (hby : i.bytes = 8) (v : Value) (m : List Int) (hs : a.eval s = v) (hown : OwnI B w v m) (u : Value) (l : List Int) (hx : a.eval x = u) (hl : Ints w u l) (hnil : u = .slice none 0 0 ∨ ∃ ad cap, u = .slice (some ad) l.length cap)
    (hlen : m.length + l.length ≤ 1000000000) (hB : B ≤ w.heap.size)
    (h : ∀ v' w', OwnI B w' v' (m ++ l) → w.grownBy w' v.ownBlock → (v ≠ .slice none 0 0 → v' ≠ .slice none 0 0) → K (a.put o.dst v') w') : o.wp P a w K Q := by
  rcases hnil with rfl | ⟨ad, cap, rfl⟩
  · obtain rfl := hl.none_nil
    have hrun := run_append_owned_none (P := P) (w := w) B t o.type 3 i 1 ht hi v m.length (iv m) hown.2
    have hk := h v w (by simpa using hown) (World.grownBy.refl _ _) (fun h => h)
    unfold Oper.wp
    simp [execOp, ho, resolve, invoke, builtin, hs, hx, hrun, Result.andThen]
    exact hk
  · refine wp_append_own w s x t ho B 3 i (.int .i64 0) 1 8 ht hi hz hsize hby rfl (by decide) v m.length (iv m) hs hown.2 ad l.length cap (iv l) hx (by simp [iv]) hl.news (iv_oneCell l) (by unfold maxLen; omega) (by omega) hB fun v' w' h2 h3 h4 => h v' w' ⟨inI64_append hown.1 hl.1, ?_⟩ h3 (fun hne he => hne (h4.1 he).1)
    rw [iv_append] at h2
    simpa using h2

theorem step_append_ints {P : Program} {K : Act → World → Prop} {E : Prop} {Q : Exit → Act → World → Prop} {ops : Array Oper} {o : Oper} {a : Act} {w : World} (hgd : o.guard = none) (s x : Operand) (t : TypeId)
    (ho : o.op = .call { callee := .builtin .append, args := #[s, x], argTypes := #[t, t] }) (B : Nat) (i : TypeInfo) (ht : P.underlying t = some (.slice 3)) (hi : P.info? 3 = some i)
    (hz : i.zero = some (.int .i64 0)) (hsize : i.size = 1) (hby : i.bytes = 8) (v : Value) (m : List Int) (hs : a.eval s = v) (hown : OwnI B w v m) (u : Value) (l : List Int) (hx : a.eval x = u) (hl : Ints w u l) (hnil : u = .slice none 0 0 ∨ ∃ ad cap, u = .slice (some ad) l.length cap)
    (hlen : m.length + l.length ≤ 1000000000) (hB : B ≤ w.heap.size)
    (h : ∀ v' w', OwnI B w' v' (m ++ l) → w.grownBy w' v.ownBlock → (v ≠ .slice none 0 0 → v' ≠ .slice none 0 0) → K (a.put o.dst v') w') :
    if Region.wanted o (yielded ops a.tmps) = true then Oper.wp P o a w K Q else E := by
  have hw : Region.wanted o (yielded ops a.tmps) = true := by simp [Region.wanted, hgd]
  rw [if_pos hw]
  exact wp_append_ints s x t ho B i ht hi hz hsize hby v m hs hown u l hx hl hnil hlen hB h

theorem wpList_append_ints {P : Program} {Q : Exit → Act → World → Prop} {ops : Array Oper} {rest : List Oper} {o : Oper} {a : Act} {w : World} (hgd : o.guard = none) (s x : Operand) (t : TypeId)
    (ho : o.op = .call { callee := .builtin .append, args := #[s, x], argTypes := #[t, t] }) (B : Nat) (i : TypeInfo) (ht : P.underlying t = some (.slice 3)) (hi : P.info? 3 = some i)
    (hz : i.zero = some (.int .i64 0)) (hsize : i.size = 1) (hby : i.bytes = 8) (v : Value) (m : List Int) (hs : a.eval s = v) (hown : OwnI B w v m) (u : Value) (l : List Int) (hx : a.eval x = u) (hl : Ints w u l) (hnil : u = .slice none 0 0 ∨ ∃ ad cap, u = .slice (some ad) l.length cap)
    (hlen : m.length + l.length ≤ 1000000000) (hB : B ≤ w.heap.size)
    (h : ∀ v' w', OwnI B w' v' (m ++ l) → w.grownBy w' v.ownBlock → (v ≠ .slice none 0 0 → v' ≠ .slice none 0 0) → wpList P ops Q rest (a.put o.dst v') w') : wpList P ops Q (o :: rest) a w :=
  wpList_plain hgd fun _ hK => wp_append_ints s x t ho B i ht hi hz hsize hby v m hs hown u l hx hl hnil hlen hB fun v' w' h1 h2 h3 => hK _ _ (h v' w' h1 h2 h3)

/-- append(s, x) of one int, s the call's own. -/
theorem wpList_append_int {P : Program} {Q : Exit → Act → World → Prop} {ops : Array Oper} {rest : List Oper} {o : Oper} {a : Act} {w : World} (hgd : o.guard = none) (s x : Operand) (t : TypeId)
    (ho : o.op = .call { callee := .builtin .append, args := #[s, x], argTypes := #[t, t] }) (B : Nat) (i : TypeInfo) (ht : P.underlying t = some (.slice 3)) (hi : P.info? 3 = some i)
    (hz : i.zero = some (.int .i64 0)) (hsize : i.size = 1) (hby : i.bytes = 8) (v : Value) (m : List Int) (hs : a.eval s = v) (hown : OwnI B w v m) (y : Int) (y0 : -9223372036854775808 ≤ y) (y1 : y ≤ 9223372036854775807) (hx : a.eval x = .slice (some ⟨w.heap.size, 0, none⟩) 1 1)
    (hlen : m.length + 1 ≤ 1000000000) (hB : B ≤ w.heap.size)
    (h : ∀ v' w', OwnI B w' v' (m ++ [y]) → (w.alloc (.cells #[.int .i64 y] 3)).grownBy w' v.ownBlock → v' ≠ .slice none 0 0 → wpList P ops Q rest (a.put o.dst v') w') : wpList P ops Q (o :: rest) a (w.alloc (.cells #[.int .i64 y] 3)) := by
  refine wpList_append_own _ hgd s x t ho B 3 i (.int .i64 0) 1 8 ht hi hz hsize hby rfl (by decide) v m.length (iv m) hs (hown.2.alloc _) ⟨w.heap.size, 0, none⟩ 1 1 [.int .i64 y] hx rfl ?_ (fun u hu => by simp at hu; subst hu; rfl) (by unfold maxLen; omega) (by omega) (by simp; omega) fun v' w' h2 h3 h4 => h v' w' ⟨inI64_append hown.1 (inI64_one y0 y1), ?_⟩ h3 (fun he => by have := (h4.1 he).2; omega)
  · intro j u hj
    match j, hj with
    | 0, hj => simp at hj; subst hj; simp [Addr.add]
  · rw [iv_snoc] at h2
    simpa using h2

theorem gcell {w w1 : World} {row : Option Nat} (h : w.grownBy w1 row) : (∀ b o, b < w.heap.size → some b ≠ row → w1.cell? ⟨b, o, none⟩ = w.cell? ⟨b, o, none⟩) ∧ (∀ b o, b < w.heap.size → some b ≠ row → w1.frozen? ⟨b, o, none⟩ = w.frozen? ⟨b, o, none⟩) :=
  ⟨fun b o hb hr => World.cell?_of_block (a := ⟨b, o, none⟩) (h.block b hb hr), fun b o hb hr => World.frozen?_of_block (a := ⟨b, o, none⟩) (h.block b hb hr)⟩

/-- copy(d, s) of ints: d a row just made, as long as s. -/
theorem wpList_copy_ints {P : Program} {w : World} {ops : Array Oper} {rest : List Oper} {o : Oper} {a : Act} {Q : Exit → Act → World → Prop} (hgd : o.guard = none) (d s : Operand) (dT sT : TypeId)
    (ho : o.op = .call { callee := .builtin .copy, args := #[d, s], argTypes := #[dT, sT] }) (hu : P.underlying dT = some (.slice 3)) (hsz : (P.info? 3).map (·.size) = some 1)
    (g n : Nat) (l : List Int) (f : Nat → Value) (hd : a.eval d = .slice (some ⟨g, 0, none⟩) n n) (hn : n = l.length) (hr : w.rowIs g 3 n f) (v : Value) (hs : a.eval s = v) (hl : Ints w v l) (hm : l.length ≤ 1000000000)
    (B : Nat) (w0 : World) (hb : Below B w0 w) (hBg : B ≤ g)
    (h : ∀ w', OwnI B w' (.slice (some ⟨g, 0, none⟩) n n) l → Below B w0 w' → wpList P ops Q rest (a.put o.dst (goInt n)) w') :
    wpList P ops Q (o :: rest) a w := by
  subst hn
  obtain ⟨c, hc, hcs, hcf⟩ := hr
  obtain ⟨ap, cap, rfl, -, -⟩ := hl.form
  refine wpList_copy_splice hgd d s dT sT ho 3 hu hsz (some ⟨g, 0, none⟩) ap l.length l.length l.length cap hd hs g 0 c.toList 3 (by simpa using hc) (iv l) (by simp [iv]) ?_ (by simp [iv, hcs]) (iv_oneCell l) B w0 hb hBg ?_
  · intro hpos
    cases ap with
    | none => obtain rfl := hl.none_nil; simp [iv] at hpos
    | some ad => exact ⟨rfl, ad, rfl, hl.news⟩
  · intro w' hg' hb'
    have hg := hg'.out
    rw [show splice c.toList 0 (iv l) = iv l by simp [splice, iv, hcs]] at hg
    rw [iv_length]
    refine ⟨hl.1, ?_⟩ |> fun hh => h w' hh hb'
    exact ⟨by simp [iv], .inr ⟨g, l.length, _, rfl, hBg, hg, Nat.le_refl _, by unfold maxLen; omega, by simp [iv], by simp only [iv, Nat.mul_one]; exact List.take_of_length_le (by simp)⟩⟩

end Go.Proofs.Ytpifgmmmmhenmab
