/- Functions that leave with several marks among their deferred calls: ranges over a function inside a loop. -/
import Derived.Test.YtpifgmmmmhenmabV1
namespace Go.Proofs.Ytpifgmmmmhenmab
set_option linter.unusedVariables false
set_option linter.unusedSimpArgs false
open Go.RowKit

/-- The markL of the blocks Ds. -/
def markL (Ds : List Nat) : List Deferred := Ds.map fun D => { target := .collected D, args := #[] }

/-- All of the blocks Ds shut. -/
def shut (W : World) : List Nat → World
  | [] => W
  | D :: Ds => shut (W.putObj D (.deferred none)) Ds

/-- The blocks Ds are open, lie at B or beyond, and no two are one. -/
def MarksOk (B : Nat) (Ds : List Nat) (W : World) : Prop := Ds.Nodup ∧ ∀ D, D ∈ Ds → B ≤ D ∧ W.heap[D]? = some (.deferred (some []))

theorem MarksOk.nil (B : Nat) (W : World) : MarksOk B [] W := ⟨List.nodup_nil, fun D h => by simp at h⟩

theorem MarksOk.cons {B D : Nat} {Ds : List Nat} {W : World} (h : MarksOk B Ds W) (hB : B ≤ D) (hD : W.heap[D]? = some (.deferred (some []))) (hn : D ∉ Ds) : MarksOk B (D :: Ds) W :=
  ⟨List.nodup_cons.2 ⟨hn, h.1⟩, fun E hE => by
    rcases List.mem_cons.1 hE with rfl | hE
    · exact ⟨hB, hD⟩
    · exact h.2 E hE⟩

theorem MarksOk.lt {B : Nat} {Ds : List Nat} {W : World} (h : MarksOk B Ds W) {D : Nat} (hD : D ∈ Ds) : D < W.heap.size := (Array.getElem?_eq_some_iff.1 (h.2 D hD).2).1

theorem MarksOk.keep {B : Nat} {Ds : List Nat} {W W' : World} (h : MarksOk B Ds W) (hk : ∀ D, D ∈ Ds → W'.heap[D]? = W.heap[D]?) : MarksOk B Ds W' :=
  ⟨h.1, fun D hD => ⟨(h.2 D hD).1, (hk D hD).trans (h.2 D hD).2⟩⟩

theorem MarksOk.grown {B : Nat} {Ds : List Nat} {W W' : World} (h : MarksOk B Ds W) (hg : W.grownBy W' none) : MarksOk B Ds W' :=
  h.keep fun D hD => hg.block D (h.lt hD) (by simp)

theorem MarksOk.setCell {B b : Nat} {Ds : List Nat} {W : World} (h : MarksOk B Ds W) (hb : b < B) (v : Value) : MarksOk B Ds (W.setCell ⟨b, 0, none⟩ v) :=
  h.keep fun D hD => (grownBy_setCell' W b v).block D (h.lt hD) (fun e => by have := (h.2 D hD).1; cases e; omega)

theorem MarksOk.drew {B : Nat} {Ds : List Nat} {W : World} (h : MarksOk B Ds W) : MarksOk B Ds W.drew := h.keep fun _ _ => rfl

theorem leaves_marks {F : Fence} {n : Nat} {P : Program} {fn : Func} {tmps : Array Value} {R : Ending → World → Prop} {B : Nat} : ∀ (Ds : List Nat) (W : World), MarksOk B Ds W →
    LeavesInM F n P fn tmps R [] .returning (shut W Ds) → LeavesInM F n P fn tmps R (markL Ds) .returning W := by
  intro Ds
  induction Ds with
  | nil => exact fun W _ h => h
  | cons D Ds ih =>
    intro W hm h
    refine ⟨by simp, .inl ⟨D, _, rfl, run_takeDeferred (hm.2 D (by simp)).2, ?_⟩⟩
    refine ih _ ⟨(List.nodup_cons.1 hm.1).2, fun E hE => ⟨(hm.2 E (by simp [hE])).1, ?_⟩⟩ h
    have hne : E ≠ D := fun e => (List.nodup_cons.1 hm.1).1 (e ▸ hE)
    exact (World.putObj_heap_other hne).trans (hm.2 E (by simp [hE])).2

/-- The way out of a function whose marks are Ds. -/
theorem leave_with {F : Fence} {n : Nat} {P : Program} {fn : Func} {tmps : Array Value} {R : Ending → World → Prop} {B : Nat} {Ds : List Nat} {W : World} (hm : MarksOk B Ds W)
    (h : LeavesInM F n P fn tmps R [] .returning (shut W Ds)) : bodyPostM F n P fn R .ret { tmps := tmps, defers := markL Ds } W := leaves_marks Ds W hm h

/-- What the shutting leaves alone. -/
theorem shut_below {B : Nat} {w : World} (hB : w.heap.size ≤ B) : ∀ (Ds : List Nat) (W : World), Below w.heap.size w W → MarksOk B Ds W → Below w.heap.size w (shut W Ds) := by
  intro Ds
  induction Ds with
  | nil => exact fun W h _ => h
  | cons D Ds ih =>
    intro W h hm
    have hD := hm.2 D (by simp)
    refine ih _ (h.trans (belowK_b (w := w) (Nat.le_refl _) W D _ _ (by omega) hD.2 rfl rfl)) ⟨(List.nodup_cons.1 hm.1).2, fun E hE => ⟨(hm.2 E (by simp [hE])).1, ?_⟩⟩
    have hne : E ≠ D := fun e => (List.nodup_cons.1 hm.1).1 (e ▸ hE)
    exact (World.putObj_heap_other hne).trans (hm.2 E (by simp [hE])).2

theorem shut_cell {B : Nat} : ∀ (Ds : List Nat) (W : World) (b : Nat) (k : Nat) (x : Value), MarksOk B Ds W → W.cell? ⟨b, k, none⟩ = some x → (shut W Ds).cell? ⟨b, k, none⟩ = some x := by
  intro Ds
  induction Ds with
  | nil => exact fun W b k x _ h => h
  | cons D Ds ih =>
    intro W b k x hm h
    have hD := hm.2 D (by simp)
    refine ih _ b k x ⟨(List.nodup_cons.1 hm.1).2, fun E hE => ⟨(hm.2 E (by simp [hE])).1, ?_⟩⟩ ?_
    · have hne : E ≠ D := fun e => (List.nodup_cons.1 hm.1).1 (e ▸ hE)
      exact (World.putObj_heap_other hne).trans (hm.2 E (by simp [hE])).2
    · exact cell_kept h (grownBy_putObj' _ D (.deferred none)) (fun r e => by cases e; exact ⟨_, hD.2, rfl⟩)

end Go.Proofs.Ytpifgmmmmhenmab
