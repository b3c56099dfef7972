/- Small facts for HeightsOf (as O2's and O4's, under names of their own: a claim holds at most 60 files). -/
import Derived.Test.YtpifgmmmmhenmabDoorT3
import Derived.Test.YtpifgmmmmhenmabDoorS1
import Derived.Test.YtpifgmmmmhenmabDoorGl
namespace Go.Proofs.YtpifgmmmmhenmabDoor
set_option linter.unusedVariables false
set_option linter.unusedSimpArgs false
open Go.RowKit Go.Shelf

theorem OwnI.none0H {B : Nat} {w : World} (hB : B ≤ w.heap.size) : OwnI B (w.alloc (.cells #[] 3)) (.slice (some ⟨w.heap.size, 0, none⟩) 0 0) [] :=
  ⟨inI64_nil, by simp [iv], .inr ⟨w.heap.size, 0, #[], rfl, hB, by show (w.heap.push _)[w.heap.size]? = _; rw [Array.getElem?_push_size], by simp, by unfold maxLen; omega, by simp, by simp [iv]⟩⟩

theorem shut_ownH {B : Nat} : ∀ (Ds : List Nat) (W : World) {C : Nat} {v : Value} {l : List Int}, MarksOk B Ds W → OwnI C W v l → OwnI C (shut W Ds) v l := by
  intro Ds
  induction Ds with
  | nil => exact fun W _ _ _ _ h => h
  | cons D Ds ih =>
    intro W C v l hm h
    have hD := hm.2 D (by simp)
    refine ih _ ⟨(List.nodup_cons.1 hm.1).2, fun E hE => ⟨(hm.2 E (by simp [hE])).1, ?_⟩⟩ ⟨h.1, ownsRow_putObj h.2 (.deferred none) hD.2 rfl⟩
    have hne : E ≠ D := fun e => (List.nodup_cons.1 hm.1).1 (e ▸ hE)
    exact (World.putObj_heap_other hne).trans (hm.2 E (by simp [hE])).2

theorem Only.thenGH {lo hi B : Nat} {w1 w2 w3 : World} {row : Option Nat} (h : Only lo hi w1 w2) (hg : w2.grownBy w3 row) (hB : w1.heap.size ≤ B) (hr : ∀ r, row = some r → B ≤ r) : Only lo hi w1 w3 :=
  ⟨hg.os.trans h.os, hg.tape.trans h.tape, hg.output.trans h.output, Nat.le_trans h.size hg.size, fun k hk hn => (hg.block k (Nat.lt_of_lt_of_le hk h.size) (fun e => by have := hr k e.symm; omega)).trans (h.block k hk hn)⟩

theorem Only.setCH {lo hi b j : Nat} {w1 w2 : World} (h : Only lo hi w1 w2) (h1 : lo ≤ b) (h2 : b < hi) (v : Value) : Only lo hi w1 (w2.setCell ⟨b, j, none⟩ v) :=
  ⟨h.os, h.tape, h.output, by simpa [World.setCell] using h.size, fun k hk hn => (Below.heap_setCell _ _ _ _ (fun e => by have : k = b := e; omega)).trans (h.block k hk hn)⟩

theorem Boxed.keepOH {q : Nat} {T : TypeId} {v : Value} {w w' : World} {lo hi : Nat} (h : Boxed w q T v) (hg : Only lo hi w w') (hr : q < lo ∨ hi ≤ q) : Boxed w' q T v :=
  (hg.block q h.lt (by omega)).trans h

end Go.Proofs.YtpifgmmmmhenmabDoor
