/- XQ's law inside a fence: a region that draws its order, whose operations read and whose callees leave alone whatever lay before. -/
import Derived.Test.YtpifgmmmmhenmabDoorQ
import Derived.Sort.QuietThIn
namespace Go.Proofs.YtpifgmmmmhenmabDoor
set_option linter.unusedVariables false
set_option linter.unusedSimpArgs false
open Go.RowKit

theorem wpIn_region_since {P : Program} {F : Fence} {n : Nat} {id : Nat} {Q : Exit → Act → World → Prop} {a : Act} {w : World} {l : List Oper} (hro : F.round = none) (hm : P.follows .mixedOrders = true) (hB : Region.lexB .any l.toArray = true)
    (h : wpQuietIn F n P l.toArray (fun W => ∃ X : Since w, W = X.val) (fun a' => ∀ X : Since w, Q .normal a' X.val) l a) : (Code.region id l.toArray true).wpIn F n P Q a w := by
  refine wpIn_region_quiet (C := fun W => ∃ X : Since w, W = X.val) hro hm hB ⟨⟨w.drew, (Below.refl _ _).drew⟩, rfl⟩ ?_
  have h2 : (fun a' => ∀ X : Since w, Q .normal a' X.val) = fun a' => ∀ w', (∃ X : Since w, w' = X.val) → Q .normal a' w' := by
    funext a'
    refine propext ⟨fun h w' ⟨X, hX⟩ => by rw [hX]; exact h X, fun h X => h _ ⟨X, rfl⟩⟩
  rw [h2] at h
  simpa using h

/-- A callee's contract inside the fence, met in one of these worlds. -/
theorem since_callIn {P : Program} {F : Fence} {n : Nat} {f : FuncId} {args : Array Value} {w : World} {X : Since w} {v : Value} (h : CallsIn F n P f args X.val fun e w' => e = .returned v ∧ Below X.val.heap.size X.val w') :
    CallsIn F n P f args X.val fun e w'' => e = .returned v ∧ ∃ Y : Since w, w'' = Y.val :=
  h.mono fun _ w' ⟨he, hb⟩ => ⟨he, ⟨w', X.prop.trans (hb.mono X.prop.size)⟩, rfl⟩

end Go.Proofs.YtpifgmmmmhenmabDoor
