/- Walks over EdgesOf: the two functions. -/
import Derived.Test.YtgfndgjabhabjabS2
namespace Go.Proofs.Ytgfndgjabhabjab
set_option linter.unusedVariables false
set_option linter.unusedSimpArgs false
open Go.RowKit

theorem cell_pair (W : World) (a b : Int) : ∀ j u, [Value.slice (some ⟨W.heap.size, 0, none⟩) 2 2][j]? = some u → ((W.alloc (.cells #[.int .i64 a, .int .i64 b] 3)).alloc (.cells #[.slice (some ⟨W.heap.size, 0, none⟩) 2 2] 22)).cell? ((⟨W.heap.size + 1, 0, none⟩ : Addr).add j) = some u := fun j u hu => by
  match j, hu with
  | 0, hu => simp at hu; subst hu; simp [Addr.add, go_sem]

end Go.Proofs.Ytgfndgjabhabjab
