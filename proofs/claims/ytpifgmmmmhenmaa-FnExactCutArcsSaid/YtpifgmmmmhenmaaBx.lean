/- What lies in a struct's box, whatever its fields; arguments that are structs of one to three fields. -/
import Derived.Test.YtpifgmmmmhenmaaGl
import Derived.Test.YtpifgmmmmhenmaaSh
import Derived.Test.YtpifgmmmmhenmaaS1
import Derived.Lib.SmallJoins
import Derived.Deep.Fields1
import Derived.Deep.Matrix
namespace Go.Proofs.Ytpifgmmmmhenmaa
set_option linter.unusedVariables false
set_option linter.unusedSimpArgs false
open Go.ChangeShapes Go.WideShapes Go.ChangeAt Go.RowKit Go.Joins Go.Deep

/-- A struct in a box: its cells, none of them frozen. -/
def Box (q : Nat) (vs : List Value) (w : World) : Prop := (∀ i v, vs[i]? = some v → w.cell? ⟨q, i, none⟩ = some v) ∧ (∀ i, w.frozen? ⟨q, i, none⟩ = false) ∧ q < w.heap.size

theorem Box.keep {q : Nat} {vs : List Value} {w w' : World} {row : Option Nat} (h : Box q vs w) (hg : w.grownBy w' row) (hr : row ≠ some q) : Box q vs w' := by
  obtain ⟨hc, hf⟩ := gcell hg
  refine ⟨fun i v hv => ?_, fun i => ?_, Nat.lt_of_lt_of_le h.2.2 hg.size⟩
  · rw [hc q i h.2.2 (fun e => hr e.symm)]; exact h.1 i v hv
  · rw [hf q i h.2.2 (fun e => hr e.symm)]; exact h.2.1 i

theorem Box.on {q : Nat} {vs : List Value} {w w' : World} (h : Box q vs w) (hb : Below w.heap.size w w') : Box q vs w' := h.keep (below_grown hb) (by simp)

theorem Box.new (w : World) (T : TypeId) (vs : List Value) : Box w.heap.size vs (w.alloc (.cells vs.toArray T)) := by
  refine ⟨fun i v hv => ?_, fun i => World.frozen?_alloc_at _ _ _ _ rfl, by rw [World.size_alloc]; omega⟩
  rw [World.cell?_alloc_at _ _ _ _ rfl]
  simpa using hv

theorem Box.set {q : Nat} {vs : List Value} {w : World} (h : Box q vs w) (j : Nat) (u : Value) : Box q (vs.set j u) (w.setCell ⟨q, j, none⟩ u) := by
  refine ⟨fun i v hv => ?_, fun i => by rw [World.frozen?_setCell]; exact h.2.1 i, by simpa using h.2.2⟩
  by_cases e : i = j
  · subst e
    have hi : i < vs.length := by
      have := (List.getElem?_eq_some_iff.1 hv).1
      simpa using this
    have h0 := h.1 i (vs[i]) (by simp [hi])
    simp [hi] at hv
    subst hv
    exact World.cell?_setCell_same w _ _ h0
  · rw [List.getElem?_set_ne (fun e' => e e'.symm)] at hv
    rw [World.cell?_setCell_other _ _ _ _ (by simp <;> omega)]
    exact h.1 i v hv

theorem Box.other {q : Nat} {vs : List Value} {w : World} (h : Box q vs w) (p : Addr) (hp : p.block ≠ q) (u : Value) : Box q vs (w.setCell p u) := by
  refine ⟨fun i v hv => ?_, fun i => by rw [World.frozen?_setCell]; exact h.2.1 i, by simpa using h.2.2⟩
  rw [World.cell?_setCell_other _ _ _ _ (by intro h'; exact hp (by rw [h']))]
  exact h.1 i v hv

theorem Box.keepO {q : Nat} {vs : List Value} {w w' : World} {lo hi : Nat} (h : Box q vs w) (hg : Only lo hi w w') (hr : q < lo ∨ hi ≤ q) : Box q vs w' := by
  have hb := hg.block q h.2.2 hr
  exact ⟨fun i v hv => (World.cell?_of_block (a := ⟨q, i, none⟩) hb).trans (h.1 i v hv), fun i => (World.frozen?_of_block (a := ⟨q, i, none⟩) hb).trans (h.2.1 i), Nat.lt_of_lt_of_le h.2.2 hg.size⟩

/-- A slice of ints in a block between lo and hi. -/
def OwnR (lo hi : Nat) (w : World) (v : Value) (l : List Int) : Prop := OwnI lo w v l ∧ ∀ k, v.ownBlock = some k → k < hi

theorem OwnR.on {lo hi : Nat} {w w' : World} {v : Value} {l : List Int} (h : OwnR lo hi w v l) (hb : Below w.heap.size w w') : OwnR lo hi w' v l := ⟨h.1.keep (below_grown hb) (by simp), h.2⟩

theorem OwnR.keepO {lo hi a b : Nat} {w w' : World} {v : Value} {l : List Int} (h : OwnR lo hi w v l) (hg : Only a b w w') (hr : hi ≤ a ∨ b ≤ lo) : OwnR lo hi w' v l :=
  ⟨h.1.block fun k hk => by
    have h1 := h.1.lt k hk
    have h2 := h.2 k hk
    exact hg.block k h1.2 (by omega), h.2⟩

section
variable {H : Type} {enc : TypeId × Value → H} {P : Program} {w : World} {held : Bool}

theorem open_s {r : Reach} {b0 : Nat} {t e : TypeId} {f0 : Field} {v : Value} {d : DataW H} {p : List MemPlace} (hs : P.underlying t = some (.struct #[f0])) (hone : oneCellFields P #[f0] = true) (hC : P.cellsOf t = 1)
    (ht0 : P.underlying f0.type = some (.slice e)) (he : P.underlying e = some (.int .i64)) (hc : P.cellsOf e = 1)
    (hv : Value.okWide P w r b0 t v) (h : DataW.Trod enc P w 0 (fun _ => true) held t v d p) :
    ∃ u0 l0, v = .agg #[u0] ∧ Ints w u0 l0 := by
  obtain ⟨cs, rfl, hsz⟩ := okWide_struct hs hv
  obtain ⟨l⟩ := cs
  have hl : l.length = 1 := by simpa using hsz.trans hC
  match l, hl with
  | [c0], _ =>
    obtain ⟨fuel, hf⟩ := h
    obtain ⟨xs, n, _, -, _, hlen, hx⟩ := DataW.trod_struct hs hf
    match xs, hlen with
    | [y0], _ =>
      have h0 := hx 0 f0 rfl
      obtain ⟨o0, k0⟩ := hone_of hone 0 f0 rfl
      obtain ⟨l0, hl0⟩ := open_ints_field ht0 he hc (by simpa [Value.cells, o0, k0] using h0)
      exact ⟨c0, l0, rfl, hl0⟩

theorem open_ss {r : Reach} {b0 : Nat} {t e : TypeId} {f0 f1 : Field} {v : Value} {d : DataW H} {p : List MemPlace} (hs : P.underlying t = some (.struct #[f0, f1])) (hone : oneCellFields P #[f0, f1] = true) (hC : P.cellsOf t = 2)
    (ht0 : P.underlying f0.type = some (.slice e)) (ht1 : P.underlying f1.type = some (.slice e)) (he : P.underlying e = some (.int .i64)) (hc : P.cellsOf e = 1)
    (hv : Value.okWide P w r b0 t v) (h : DataW.Trod enc P w 0 (fun _ => true) held t v d p) :
    ∃ u0 l0 u1 l1, v = .agg #[u0, u1] ∧ Ints w u0 l0 ∧ Ints w u1 l1 := by
  obtain ⟨v0, v1, y0, y1, n, rfl, -, -, h0, h1⟩ := open_agg2 hs hone hC hv h
  obtain ⟨l0, hl0⟩ := open_ints_field ht0 he hc h0
  obtain ⟨l1, hl1⟩ := open_ints_field ht1 he hc h1
  exact ⟨v0, l0, v1, l1, rfl, hl0, hl1⟩

theorem open_is {r : Reach} {b0 : Nat} {t e : TypeId} {f0 f1 : Field} {v : Value} {d : DataW H} {p : List MemPlace} (hs : P.underlying t = some (.struct #[f0, f1])) (hone : oneCellFields P #[f0, f1] = true) (hC : P.cellsOf t = 2)
    (ht0 : P.underlying f0.type = some (.int .i64)) (ht1 : P.underlying f1.type = some (.slice e)) (he : P.underlying e = some (.int .i64)) (hc : P.cellsOf e = 1)
    (hv : Value.okWide P w r b0 t v) (h : DataW.Trod enc P w 0 (fun _ => true) held t v d p) :
    ∃ n0 u1 l1, v = .agg #[.int .i64 n0, u1] ∧ (Lit.int .i64 n0).wf = true ∧ Ints w u1 l1 := by
  obtain ⟨v0, v1, y0, y1, n, rfl, -, -, h0, h1⟩ := open_agg2 hs hone hC hv h
  obtain ⟨m, hm, -, hw⟩ := DataW.trod_int ht0 h0
  obtain ⟨l1, hl1⟩ := open_ints_field ht1 he hc h1
  simp at hm
  subst hm
  exact ⟨m, v1, l1, rfl, hw, hl1⟩

theorem open_sss {r : Reach} {b0 : Nat} {t e : TypeId} {f0 f1 f2 : Field} {v : Value} {d : DataW H} {p : List MemPlace} (hs : P.underlying t = some (.struct #[f0, f1, f2])) (hone : oneCellFields P #[f0, f1, f2] = true) (hC : P.cellsOf t = 3)
    (ht0 : P.underlying f0.type = some (.slice e)) (ht1 : P.underlying f1.type = some (.slice e)) (ht2 : P.underlying f2.type = some (.slice e)) (he : P.underlying e = some (.int .i64)) (hc : P.cellsOf e = 1)
    (hv : Value.okWide P w r b0 t v) (h : DataW.Trod enc P w 0 (fun _ => true) held t v d p) :
    ∃ u0 l0 u1 l1 u2 l2, v = .agg #[u0, u1, u2] ∧ Ints w u0 l0 ∧ Ints w u1 l1 ∧ Ints w u2 l2 := by
  obtain ⟨v0, v1, v2, y0, y1, y2, n, rfl, -, -, h0, h1, h2⟩ := open_agg3 hs hone hC hv h
  obtain ⟨l0, hl0⟩ := open_ints_field ht0 he hc h0
  obtain ⟨l1, hl1⟩ := open_ints_field ht1 he hc h1
  obtain ⟨l2, hl2⟩ := open_ints_field ht2 he hc h2
  exact ⟨v0, l0, v1, l1, v2, l2, rfl, hl0, hl1, hl2⟩

theorem open_iss {r : Reach} {b0 : Nat} {t e : TypeId} {f0 f1 f2 : Field} {v : Value} {d : DataW H} {p : List MemPlace} (hs : P.underlying t = some (.struct #[f0, f1, f2])) (hone : oneCellFields P #[f0, f1, f2] = true) (hC : P.cellsOf t = 3)
    (ht0 : P.underlying f0.type = some (.int .i64)) (ht1 : P.underlying f1.type = some (.slice e)) (ht2 : P.underlying f2.type = some (.slice e)) (he : P.underlying e = some (.int .i64)) (hc : P.cellsOf e = 1)
    (hv : Value.okWide P w r b0 t v) (h : DataW.Trod enc P w 0 (fun _ => true) held t v d p) :
    ∃ n0 u1 l1 u2 l2, v = .agg #[.int .i64 n0, u1, u2] ∧ (Lit.int .i64 n0).wf = true ∧ Ints w u1 l1 ∧ Ints w u2 l2 := by
  obtain ⟨v0, v1, v2, y0, y1, y2, n, rfl, -, -, h0, h1, h2⟩ := open_agg3 hs hone hC hv h
  obtain ⟨m, hm, -, hw⟩ := DataW.trod_int ht0 h0
  obtain ⟨l1, hl1⟩ := open_ints_field ht1 he hc h1
  obtain ⟨l2, hl2⟩ := open_ints_field ht2 he hc h2
  simp at hm
  subst hm
  exact ⟨m, v1, l1, v2, l2, rfl, hw, hl1, hl2⟩

end

end Go.Proofs.Ytpifgmmmmhenmaa
