/- A region that draws its order, whose operations read and whose callees leave alone whatever lay before: one walk of the text's order, guards and all. -/
import Derived.Deep.QuietTactic
import Derived.BigQuiet
import Derived.Below
import Derived.WalkKit
namespace Go.Proofs.Ytpifgmmmmhenmab
set_option linter.unusedVariables false
set_option linter.unusedSimpArgs false
open Go.RowKit

/-- The worlds in which all that lay in w lies as it lay. -/
structure Since (w : World) where
  val : World
  prop : Below w.heap.size w val

instance (w : World) : Nonempty (Since w) := ⟨⟨w, Below.refl _ _⟩⟩

theorem wp_region_since {P : Program} {id : Nat} {Q : Exit → Act → World → Prop} {a : Act} {w : World} {l : List Oper} (hm : P.follows .mixedOrders = true) (hB : Region.lexB .any l.toArray = true)
    (h : wpQuiet P l.toArray (fun W => ∃ X : Since w, W = X.val) (fun a' => ∀ X : Since w, Q .normal a' X.val) l a) : (Code.region id l.toArray true).wp P Q a w := by
  refine wp_region_quiet (C := fun W => ∃ X : Since w, W = X.val) hm hB ⟨⟨w.drew, (Below.refl _ _).drew⟩, rfl⟩ ?_
  have h2 : (fun a' => ∀ X : Since w, Q .normal a' X.val) = fun a' => ∀ w', (∃ X : Since w, w' = X.val) → Q .normal a' w' := by
    funext a'
    refine propext ⟨fun h w' ⟨X, hX⟩ => by rw [hX]; exact h X, fun h X => h _ ⟨X, rfl⟩⟩
  rw [h2] at h
  simpa using h

theorem since_below {w0 w1 : World} (h : w1 = w0) {B : Nat} (hB : B ≤ w0.heap.size) (X : Since w1) : Below B w0 X.val := by
  subst h
  exact X.prop.mono hB

/-- A callee's contract, met in one of these worlds. -/
theorem since_call {P : Program} {f : FuncId} {args : Array Value} {w : World} {X : Since w} {v : Value} (h : Calls P f args X.val fun e w' => e = .returned v ∧ Below X.val.heap.size X.val w') :
    Calls P f args X.val fun e w'' => e = .returned v ∧ ∃ Y : Since w, w'' = Y.val :=
  h.mono fun _ w' ⟨he, hb⟩ => ⟨he, ⟨w', X.prop.trans (hb.mono X.prop.size)⟩, rfl⟩

end Go.Proofs.Ytpifgmmmmhenmab
