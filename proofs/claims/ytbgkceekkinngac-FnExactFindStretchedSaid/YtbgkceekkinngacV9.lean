/- How many parts a set has. -/
import Derived.Test.YtbgkceekkinngacV8
namespace Go.Proofs.Ytbgkceekkinngac
set_option linter.unusedVariables false
set_option linter.unusedSimpArgs false
open Go.RowKit

def plen (n : Int) (l : List Int) (x : Int) : Nat := (partsR n l x).length

theorem implPlen (n : Int) (v : Value) (l : List Int) (x : Int) (w : World) (h : Ints w v l) :
    Calls Try.prog 100 #[.agg #[.int .i64 n, v], .int .i64 x] w fun e w' => ∃ ap capp, e = .returned (.slice ap (plen n l x) capp) ∧ Below w.heap.size w w' :=
  (implParts n v l x w h).mono fun e w' ⟨vp, he, ho, hb⟩ => by
    obtain ⟨ap, capp, hv, -, -⟩ := ho.ints.form
    exact ⟨ap, capp, by rw [he, hv]; rfl, hb⟩

theorem specPlen (n : Int) (v : Value) (l : List Int) (x : Int) (w : World) (h : Ints w v l) :
    Calls Try.prog 98 #[.agg #[.int .i64 n, v], .int .i64 x] w fun e w' => ∃ ap capp, e = .returned (.slice ap (plen n l x) capp) ∧ Below w.heap.size w w' :=
  (specParts n v l x w h).mono fun e w' ⟨vp, he, ho, hb⟩ => by
    obtain ⟨ap, capp, hv, -, -⟩ := ho.ints.form
    exact ⟨ap, capp, by rw [he, hv]; rfl, hb⟩

end Go.Proofs.Ytbgkceekkinngac
