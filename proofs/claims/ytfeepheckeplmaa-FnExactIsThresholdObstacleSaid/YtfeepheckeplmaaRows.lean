/-
  No cell of these rows narrows 'for every input' (looked for: loops, veiled, ifaces, maps, wideKeys, modest, calm, conditions, laid).
  DERIVED. THE GIVEN ROWS OF THIS SEAT. 12 by the template 'for every input the law returns true; each argument reads behind the call as it read before'; 0 by the template 'total and deterministic' (their statements: YtfeepheckeplmaaTotals.lean).
  GIVEN WITH THE SEED: the statements are not yours to turn. If you find one false, say at which input.
  Laid BY PROGRAM, IN A SANDBOX (cutbox-rows.mjs): the forced cells as the released guide's own fill.sh prints them over the translation 0416f36448e51690… (all of the seat's roots in one cut). By AI agents, Wed Nov 11 2026. No macro, syntax, notation, axiom, sorry.
-/
import Derived.Test.YtfeepheckeplmaaChecked
import GoSem.Claim
import GoSem.ClaimJoined
import GoSem.ClaimMapViews
import Derived.JoinedTies
import Derived.KernelRfl
namespace Go.Proofs.Ytfeepheckeplmaa
/- THE CELL 'sum', in the pinned program and in every row, IS THE sha256 OF THE DUMP (.gsa) THAT YtfeepheckeplmaaProg.lean LOADS. Nothing in Lean hashes anything: it is a label: what it is worth is what the hold of that sum in a sandbox is worth. -/
noncomputable def Try.pinned : Pinned := { name := "ytfeepheckeplmaa", sum := "0416f36448e51690f7e591fdce1eccbc26b514bd32dc824cc8b508eadade9420", checked := Try.checked }
namespace Rows
def none {H : Type} : Left H := { results := [], args := [] }

/-- 'laws.FnExactIsClaw': WHATEVER THE INPUT: true; the input reads as it did. -/
def fnExactIsClawSpec : ChangeSpec := { name := "fnExactIsClaw", fn := fun _ => fun
  | [d1, d2] => { results := [.lit (.bool true)], args := [d1, d2] }
  | _ => none }
def fnExactIsClawRow : OpenClaim := { program := "ytfeepheckeplmaa", sum := "0416f36448e51690f7e591fdce1eccbc26b514bd32dc824cc8b508eadade9420", func := "loop.example/g02081/laws.FnExactIsClaw", spec := "fnExactIsClaw", unfollowed := true, recurses := true, apart := false }
def FnExactIsClawSaid : Prop := fnExactIsClawRow.holds Try.pinned (OpenSpec.ofChange fnExactIsClawSpec)

/-- ITS FALSE NEIGHBOUR: 'it returns false'. Refute it at one input. -/
def fnExactIsClawWrong : ChangeSpec := { name := "fnExactIsClaw", fn := fun _ => fun
  | [d1, d2] => { results := [.lit (.bool false)], args := [d1, d2] }
  | _ => none }
def FnExactIsClawWrongFalsely : Prop := fnExactIsClawRow.holds Try.pinned (OpenSpec.ofChange fnExactIsClawWrong)

/-- 'laws.FnExactIsTwoEdges': WHATEVER THE INPUT: true; the input reads as it did. -/
def fnExactIsTwoEdgesSpec : ChangeSpec := { name := "fnExactIsTwoEdges", fn := fun _ => fun
  | [d1, d2] => { results := [.lit (.bool true)], args := [d1, d2] }
  | _ => none }
def fnExactIsTwoEdgesRow : OpenClaim := { program := "ytfeepheckeplmaa", sum := "0416f36448e51690f7e591fdce1eccbc26b514bd32dc824cc8b508eadade9420", func := "loop.example/g02081/laws.FnExactIsTwoEdges", spec := "fnExactIsTwoEdges", unfollowed := true, recurses := true, apart := false }
def FnExactIsTwoEdgesSaid : Prop := fnExactIsTwoEdgesRow.holds Try.pinned (OpenSpec.ofChange fnExactIsTwoEdgesSpec)

/-- ITS FALSE NEIGHBOUR: 'it returns false'. Refute it at one input. -/
def fnExactIsTwoEdgesWrong : ChangeSpec := { name := "fnExactIsTwoEdges", fn := fun _ => fun
  | [d1, d2] => { results := [.lit (.bool false)], args := [d1, d2] }
  | _ => none }
def FnExactIsTwoEdgesWrongFalsely : Prop := fnExactIsTwoEdgesRow.holds Try.pinned (OpenSpec.ofChange fnExactIsTwoEdgesWrong)

/-- 'laws.FnExactIsSplitObstacle': WHATEVER THE INPUT: true; the input reads as it did. -/
def fnExactIsSplitObstacleSpec : ChangeSpec := { name := "fnExactIsSplitObstacle", fn := fun _ => fun
  | [d1, d2] => { results := [.lit (.bool true)], args := [d1, d2] }
  | _ => none }
def fnExactIsSplitObstacleRow : OpenClaim := { program := "ytfeepheckeplmaa", sum := "0416f36448e51690f7e591fdce1eccbc26b514bd32dc824cc8b508eadade9420", func := "loop.example/g02081/laws.FnExactIsSplitObstacle", spec := "fnExactIsSplitObstacle", unfollowed := true, recurses := true, apart := false }
def FnExactIsSplitObstacleSaid : Prop := fnExactIsSplitObstacleRow.holds Try.pinned (OpenSpec.ofChange fnExactIsSplitObstacleSpec)

/-- ITS FALSE NEIGHBOUR: 'it returns false'. Refute it at one input. -/
def fnExactIsSplitObstacleWrong : ChangeSpec := { name := "fnExactIsSplitObstacle", fn := fun _ => fun
  | [d1, d2] => { results := [.lit (.bool false)], args := [d1, d2] }
  | _ => none }
def FnExactIsSplitObstacleWrongFalsely : Prop := fnExactIsSplitObstacleRow.holds Try.pinned (OpenSpec.ofChange fnExactIsSplitObstacleWrong)

/-- 'laws.FnExactIsThresholdObstacle': WHATEVER THE INPUT: true; the input reads as it did. -/
def fnExactIsThresholdObstacleSpec : ChangeSpec := { name := "fnExactIsThresholdObstacle", fn := fun _ => fun
  | [d1, d2] => { results := [.lit (.bool true)], args := [d1, d2] }
  | _ => none }
def fnExactIsThresholdObstacleRow : OpenClaim := { program := "ytfeepheckeplmaa", sum := "0416f36448e51690f7e591fdce1eccbc26b514bd32dc824cc8b508eadade9420", func := "loop.example/g02081/laws.FnExactIsThresholdObstacle", spec := "fnExactIsThresholdObstacle", unfollowed := true, recurses := true, apart := false }
def FnExactIsThresholdObstacleSaid : Prop := fnExactIsThresholdObstacleRow.holds Try.pinned (OpenSpec.ofChange fnExactIsThresholdObstacleSpec)

/-- ITS FALSE NEIGHBOUR: 'it returns false'. Refute it at one input. -/
def fnExactIsThresholdObstacleWrong : ChangeSpec := { name := "fnExactIsThresholdObstacle", fn := fun _ => fun
  | [d1, d2] => { results := [.lit (.bool false)], args := [d1, d2] }
  | _ => none }
def FnExactIsThresholdObstacleWrongFalsely : Prop := fnExactIsThresholdObstacleRow.holds Try.pinned (OpenSpec.ofChange fnExactIsThresholdObstacleWrong)

/-- 'laws.FnExactLaterNeighbours': WHATEVER THE INPUT: true; the input reads as it did. -/
def fnExactLaterNeighboursSpec : ChangeSpec := { name := "fnExactLaterNeighbours", fn := fun _ => fun
  | [d1, d2, d3] => { results := [.lit (.bool true)], args := [d1, d2, d3] }
  | _ => none }
def fnExactLaterNeighboursRow : OpenClaim := { program := "ytfeepheckeplmaa", sum := "0416f36448e51690f7e591fdce1eccbc26b514bd32dc824cc8b508eadade9420", func := "loop.example/g02081/laws.FnExactLaterNeighbours", spec := "fnExactLaterNeighbours", apart := false }
def FnExactLaterNeighboursSaid : Prop := fnExactLaterNeighboursRow.holds Try.pinned (OpenSpec.ofChange fnExactLaterNeighboursSpec)

/-- ITS FALSE NEIGHBOUR: 'it returns false'. Refute it at one input. -/
def fnExactLaterNeighboursWrong : ChangeSpec := { name := "fnExactLaterNeighbours", fn := fun _ => fun
  | [d1, d2, d3] => { results := [.lit (.bool false)], args := [d1, d2, d3] }
  | _ => none }
def FnExactLaterNeighboursWrongFalsely : Prop := fnExactLaterNeighboursRow.holds Try.pinned (OpenSpec.ofChange fnExactLaterNeighboursWrong)

/-- 'laws.FnExactIsElimination': WHATEVER THE INPUT: true; the input reads as it did. -/
def fnExactIsEliminationSpec : ChangeSpec := { name := "fnExactIsElimination", fn := fun _ => fun
  | [d1, d2] => { results := [.lit (.bool true)], args := [d1, d2] }
  | _ => none }
def fnExactIsEliminationRow : OpenClaim := { program := "ytfeepheckeplmaa", sum := "0416f36448e51690f7e591fdce1eccbc26b514bd32dc824cc8b508eadade9420", func := "loop.example/g02081/laws.FnExactIsElimination", spec := "fnExactIsElimination", unfollowed := true, recurses := true, apart := false }
def FnExactIsEliminationSaid : Prop := fnExactIsEliminationRow.holds Try.pinned (OpenSpec.ofChange fnExactIsEliminationSpec)

/-- ITS FALSE NEIGHBOUR: 'it returns false'. Refute it at one input. -/
def fnExactIsEliminationWrong : ChangeSpec := { name := "fnExactIsElimination", fn := fun _ => fun
  | [d1, d2] => { results := [.lit (.bool false)], args := [d1, d2] }
  | _ => none }
def FnExactIsEliminationWrongFalsely : Prop := fnExactIsEliminationRow.holds Try.pinned (OpenSpec.ofChange fnExactIsEliminationWrong)

/-- 'laws.FnExactIsLexOrder': WHATEVER THE INPUT: true; the input reads as it did. -/
def fnExactIsLexOrderSpec : ChangeSpec := { name := "fnExactIsLexOrder", fn := fun _ => fun
  | [d1, d2] => { results := [.lit (.bool true)], args := [d1, d2] }
  | _ => none }
def fnExactIsLexOrderRow : OpenClaim := { program := "ytfeepheckeplmaa", sum := "0416f36448e51690f7e591fdce1eccbc26b514bd32dc824cc8b508eadade9420", func := "loop.example/g02081/laws.FnExactIsLexOrder", spec := "fnExactIsLexOrder", apart := false }
def FnExactIsLexOrderSaid : Prop := fnExactIsLexOrderRow.holds Try.pinned (OpenSpec.ofChange fnExactIsLexOrderSpec)

/-- ITS FALSE NEIGHBOUR: 'it returns false'. Refute it at one input. -/
def fnExactIsLexOrderWrong : ChangeSpec := { name := "fnExactIsLexOrder", fn := fun _ => fun
  | [d1, d2] => { results := [.lit (.bool false)], args := [d1, d2] }
  | _ => none }
def FnExactIsLexOrderWrongFalsely : Prop := fnExactIsLexOrderRow.holds Try.pinned (OpenSpec.ofChange fnExactIsLexOrderWrong)

/-- 'laws.FnExactIsUmbrella': WHATEVER THE INPUT: true; the input reads as it did. -/
def fnExactIsUmbrellaSpec : ChangeSpec := { name := "fnExactIsUmbrella", fn := fun _ => fun
  | [d1, d2] => { results := [.lit (.bool true)], args := [d1, d2] }
  | _ => none }
def fnExactIsUmbrellaRow : OpenClaim := { program := "ytfeepheckeplmaa", sum := "0416f36448e51690f7e591fdce1eccbc26b514bd32dc824cc8b508eadade9420", func := "loop.example/g02081/laws.FnExactIsUmbrella", spec := "fnExactIsUmbrella", apart := false }
def FnExactIsUmbrellaSaid : Prop := fnExactIsUmbrellaRow.holds Try.pinned (OpenSpec.ofChange fnExactIsUmbrellaSpec)

/-- ITS FALSE NEIGHBOUR: 'it returns false'. Refute it at one input. -/
def fnExactIsUmbrellaWrong : ChangeSpec := { name := "fnExactIsUmbrella", fn := fun _ => fun
  | [d1, d2] => { results := [.lit (.bool false)], args := [d1, d2] }
  | _ => none }
def FnExactIsUmbrellaWrongFalsely : Prop := fnExactIsUmbrellaRow.holds Try.pinned (OpenSpec.ofChange fnExactIsUmbrellaWrong)

/-- 'laws.FnExactBandOf': WHATEVER THE INPUT: true; the input reads as it did. -/
def fnExactBandOfSpec : ChangeSpec := { name := "fnExactBandOf", fn := fun _ => fun
  | [d1, d2] => { results := [.lit (.bool true)], args := [d1, d2] }
  | _ => none }
def fnExactBandOfRow : OpenClaim := { program := "ytfeepheckeplmaa", sum := "0416f36448e51690f7e591fdce1eccbc26b514bd32dc824cc8b508eadade9420", func := "loop.example/g02081/laws.FnExactBandOf", spec := "fnExactBandOf", apart := false }
def FnExactBandOfSaid : Prop := fnExactBandOfRow.holds Try.pinned (OpenSpec.ofChange fnExactBandOfSpec)

/-- ITS FALSE NEIGHBOUR: 'it returns false'. Refute it at one input. -/
def fnExactBandOfWrong : ChangeSpec := { name := "fnExactBandOf", fn := fun _ => fun
  | [d1, d2] => { results := [.lit (.bool false)], args := [d1, d2] }
  | _ => none }
def FnExactBandOfWrongFalsely : Prop := fnExactBandOfRow.holds Try.pinned (OpenSpec.ofChange fnExactBandOfWrong)

/-- 'laws.FnExactIsOddCycle': WHATEVER THE INPUT: true; the input reads as it did. -/
def fnExactIsOddCycleSpec : ChangeSpec := { name := "fnExactIsOddCycle", fn := fun _ => fun
  | [d1, d2] => { results := [.lit (.bool true)], args := [d1, d2] }
  | _ => none }
def fnExactIsOddCycleRow : OpenClaim := { program := "ytfeepheckeplmaa", sum := "0416f36448e51690f7e591fdce1eccbc26b514bd32dc824cc8b508eadade9420", func := "loop.example/g02081/laws.FnExactIsOddCycle", spec := "fnExactIsOddCycle", apart := false }
def FnExactIsOddCycleSaid : Prop := fnExactIsOddCycleRow.holds Try.pinned (OpenSpec.ofChange fnExactIsOddCycleSpec)

/-- ITS FALSE NEIGHBOUR: 'it returns false'. Refute it at one input. -/
def fnExactIsOddCycleWrong : ChangeSpec := { name := "fnExactIsOddCycle", fn := fun _ => fun
  | [d1, d2] => { results := [.lit (.bool false)], args := [d1, d2] }
  | _ => none }
def FnExactIsOddCycleWrongFalsely : Prop := fnExactIsOddCycleRow.holds Try.pinned (OpenSpec.ofChange fnExactIsOddCycleWrong)

/-- 'laws.FnExactIsPermutation': WHATEVER THE INPUT: true; the input reads as it did. -/
def fnExactIsPermutationSpec : ChangeSpec := { name := "fnExactIsPermutation", fn := fun _ => fun
  | [d] => { results := [.lit (.bool true)], args := [d] }
  | _ => none }
def fnExactIsPermutationRow : OpenClaim := { program := "ytfeepheckeplmaa", sum := "0416f36448e51690f7e591fdce1eccbc26b514bd32dc824cc8b508eadade9420", func := "loop.example/g02081/laws.FnExactIsPermutation", spec := "fnExactIsPermutation", apart := false }
def FnExactIsPermutationSaid : Prop := fnExactIsPermutationRow.holds Try.pinned (OpenSpec.ofChange fnExactIsPermutationSpec)

/-- ITS FALSE NEIGHBOUR: 'it returns false'. Refute it at one input. -/
def fnExactIsPermutationWrong : ChangeSpec := { name := "fnExactIsPermutation", fn := fun _ => fun
  | [d] => { results := [.lit (.bool false)], args := [d] }
  | _ => none }
def FnExactIsPermutationWrongFalsely : Prop := fnExactIsPermutationRow.holds Try.pinned (OpenSpec.ofChange fnExactIsPermutationWrong)

/-- 'laws.FnExactGraphOfPermutation': WHATEVER THE INPUT: true; the input reads as it did. -/
def fnExactGraphOfPermutationSpec : ChangeSpec := { name := "fnExactGraphOfPermutation", fn := fun _ => fun
  | [d] => { results := [.lit (.bool true)], args := [d] }
  | _ => none }
def fnExactGraphOfPermutationRow : OpenClaim := { program := "ytfeepheckeplmaa", sum := "0416f36448e51690f7e591fdce1eccbc26b514bd32dc824cc8b508eadade9420", func := "loop.example/g02081/laws.FnExactGraphOfPermutation", spec := "fnExactGraphOfPermutation", unfollowed := true, recurses := true, apart := false }
def FnExactGraphOfPermutationSaid : Prop := fnExactGraphOfPermutationRow.holds Try.pinned (OpenSpec.ofChange fnExactGraphOfPermutationSpec)

/-- ITS FALSE NEIGHBOUR: 'it returns false'. Refute it at one input. -/
def fnExactGraphOfPermutationWrong : ChangeSpec := { name := "fnExactGraphOfPermutation", fn := fun _ => fun
  | [d] => { results := [.lit (.bool false)], args := [d] }
  | _ => none }
def FnExactGraphOfPermutationWrongFalsely : Prop := fnExactGraphOfPermutationRow.holds Try.pinned (OpenSpec.ofChange fnExactGraphOfPermutationWrong)

/- THE SECOND FORM. 'bulk': how many values and letters a reading holds, each counted each time it is reached (what is shared counts as often as it is met; a slice's spare places count too). A statement '..UptoSaid' is the law's where the arguments, and the package variables that the reading takes, are together of bulk at most 1048576: NARROWER than '..Said'. Prove '..Said' where nothing that the law and all that it calls make is longer than what came in: it says more and counts as full. Else prove '..UptoSaid'. A law counts once. -/
mutual
def uptoBulk {H : Type} : DataW H → Nat
  | .lit (.string bytes) => bytes.length + 1
  | .lit _ => 1
  | .nil => 1
  | .ptr d => uptoBulk d + 1
  | .slice elems spare => uptoBulkAll elems + uptoBulkAll spare + 1
  | .agg parts => uptoBulkAll parts + 1
  | .iface _ d => uptoBulk d + 1
  | .map entries => uptoBulkEntries entries + 1
  | .held _ => 1
def uptoBulkAll {H : Type} : List (DataW H) → Nat
  | [] => 0
  | d :: r => uptoBulk d + uptoBulkAll r
def uptoBulkEntries {H : Type} : List (Lit × DataW H) → Nat
  | [] => 0
  | x :: r => uptoBulkEntry x + uptoBulkEntries r
def uptoBulkEntry {H : Type} : Lit × DataW H → Nat
  | (.string bytes, d) => bytes.length + uptoBulk d + 1
  | (_, d) => uptoBulk d + 1
 end
def uptoSmall : (H : Type) → List (DataW H) → Bool := fun _ ds => decide (uptoBulkAll ds ≤ 1048576)
def OpenSpec.upto (s : _root_.Go.ChangeSpec) : _root_.Go.OpenSpec := { _root_.Go.OpenSpec.ofChange s with cond := some uptoSmall }

/-- 'laws.FnExactIsClaw', WHERE WHAT IT READS IS OF BULK AT MOST 1048576: true; the input reads as it did. -/
def fnExactIsClawUptoRow : OpenClaim := { program := "ytfeepheckeplmaa", sum := "0416f36448e51690f7e591fdce1eccbc26b514bd32dc824cc8b508eadade9420", func := "loop.example/g02081/laws.FnExactIsClaw", spec := "fnExactIsClaw", unfollowed := true, recurses := true, apart := false, narrowed := true }
def FnExactIsClawUptoSaid : Prop := fnExactIsClawUptoRow.holds Try.pinned (OpenSpec.upto fnExactIsClawSpec)

/-- 'laws.FnExactIsTwoEdges', WHERE WHAT IT READS IS OF BULK AT MOST 1048576: true; the input reads as it did. -/
def fnExactIsTwoEdgesUptoRow : OpenClaim := { program := "ytfeepheckeplmaa", sum := "0416f36448e51690f7e591fdce1eccbc26b514bd32dc824cc8b508eadade9420", func := "loop.example/g02081/laws.FnExactIsTwoEdges", spec := "fnExactIsTwoEdges", unfollowed := true, recurses := true, apart := false, narrowed := true }
def FnExactIsTwoEdgesUptoSaid : Prop := fnExactIsTwoEdgesUptoRow.holds Try.pinned (OpenSpec.upto fnExactIsTwoEdgesSpec)

/-- 'laws.FnExactIsSplitObstacle', WHERE WHAT IT READS IS OF BULK AT MOST 1048576: true; the input reads as it did. -/
def fnExactIsSplitObstacleUptoRow : OpenClaim := { program := "ytfeepheckeplmaa", sum := "0416f36448e51690f7e591fdce1eccbc26b514bd32dc824cc8b508eadade9420", func := "loop.example/g02081/laws.FnExactIsSplitObstacle", spec := "fnExactIsSplitObstacle", unfollowed := true, recurses := true, apart := false, narrowed := true }
def FnExactIsSplitObstacleUptoSaid : Prop := fnExactIsSplitObstacleUptoRow.holds Try.pinned (OpenSpec.upto fnExactIsSplitObstacleSpec)

/-- 'laws.FnExactIsThresholdObstacle', WHERE WHAT IT READS IS OF BULK AT MOST 1048576: true; the input reads as it did. -/
def fnExactIsThresholdObstacleUptoRow : OpenClaim := { program := "ytfeepheckeplmaa", sum := "0416f36448e51690f7e591fdce1eccbc26b514bd32dc824cc8b508eadade9420", func := "loop.example/g02081/laws.FnExactIsThresholdObstacle", spec := "fnExactIsThresholdObstacle", unfollowed := true, recurses := true, apart := false, narrowed := true }
def FnExactIsThresholdObstacleUptoSaid : Prop := fnExactIsThresholdObstacleUptoRow.holds Try.pinned (OpenSpec.upto fnExactIsThresholdObstacleSpec)

/-- 'laws.FnExactLaterNeighbours', WHERE WHAT IT READS IS OF BULK AT MOST 1048576: true; the input reads as it did. -/
def fnExactLaterNeighboursUptoRow : OpenClaim := { program := "ytfeepheckeplmaa", sum := "0416f36448e51690f7e591fdce1eccbc26b514bd32dc824cc8b508eadade9420", func := "loop.example/g02081/laws.FnExactLaterNeighbours", spec := "fnExactLaterNeighbours", apart := false, narrowed := true }
def FnExactLaterNeighboursUptoSaid : Prop := fnExactLaterNeighboursUptoRow.holds Try.pinned (OpenSpec.upto fnExactLaterNeighboursSpec)

/-- 'laws.FnExactIsElimination', WHERE WHAT IT READS IS OF BULK AT MOST 1048576: true; the input reads as it did. -/
def fnExactIsEliminationUptoRow : OpenClaim := { program := "ytfeepheckeplmaa", sum := "0416f36448e51690f7e591fdce1eccbc26b514bd32dc824cc8b508eadade9420", func := "loop.example/g02081/laws.FnExactIsElimination", spec := "fnExactIsElimination", unfollowed := true, recurses := true, apart := false, narrowed := true }
def FnExactIsEliminationUptoSaid : Prop := fnExactIsEliminationUptoRow.holds Try.pinned (OpenSpec.upto fnExactIsEliminationSpec)

/-- 'laws.FnExactIsLexOrder', WHERE WHAT IT READS IS OF BULK AT MOST 1048576: true; the input reads as it did. -/
def fnExactIsLexOrderUptoRow : OpenClaim := { program := "ytfeepheckeplmaa", sum := "0416f36448e51690f7e591fdce1eccbc26b514bd32dc824cc8b508eadade9420", func := "loop.example/g02081/laws.FnExactIsLexOrder", spec := "fnExactIsLexOrder", apart := false, narrowed := true }
def FnExactIsLexOrderUptoSaid : Prop := fnExactIsLexOrderUptoRow.holds Try.pinned (OpenSpec.upto fnExactIsLexOrderSpec)

/-- 'laws.FnExactIsUmbrella', WHERE WHAT IT READS IS OF BULK AT MOST 1048576: true; the input reads as it did. -/
def fnExactIsUmbrellaUptoRow : OpenClaim := { program := "ytfeepheckeplmaa", sum := "0416f36448e51690f7e591fdce1eccbc26b514bd32dc824cc8b508eadade9420", func := "loop.example/g02081/laws.FnExactIsUmbrella", spec := "fnExactIsUmbrella", apart := false, narrowed := true }
def FnExactIsUmbrellaUptoSaid : Prop := fnExactIsUmbrellaUptoRow.holds Try.pinned (OpenSpec.upto fnExactIsUmbrellaSpec)

/-- 'laws.FnExactBandOf', WHERE WHAT IT READS IS OF BULK AT MOST 1048576: true; the input reads as it did. -/
def fnExactBandOfUptoRow : OpenClaim := { program := "ytfeepheckeplmaa", sum := "0416f36448e51690f7e591fdce1eccbc26b514bd32dc824cc8b508eadade9420", func := "loop.example/g02081/laws.FnExactBandOf", spec := "fnExactBandOf", apart := false, narrowed := true }
def FnExactBandOfUptoSaid : Prop := fnExactBandOfUptoRow.holds Try.pinned (OpenSpec.upto fnExactBandOfSpec)

/-- 'laws.FnExactIsOddCycle', WHERE WHAT IT READS IS OF BULK AT MOST 1048576: true; the input reads as it did. -/
def fnExactIsOddCycleUptoRow : OpenClaim := { program := "ytfeepheckeplmaa", sum := "0416f36448e51690f7e591fdce1eccbc26b514bd32dc824cc8b508eadade9420", func := "loop.example/g02081/laws.FnExactIsOddCycle", spec := "fnExactIsOddCycle", apart := false, narrowed := true }
def FnExactIsOddCycleUptoSaid : Prop := fnExactIsOddCycleUptoRow.holds Try.pinned (OpenSpec.upto fnExactIsOddCycleSpec)

/-- 'laws.FnExactIsPermutation', WHERE WHAT IT READS IS OF BULK AT MOST 1048576: true; the input reads as it did. -/
def fnExactIsPermutationUptoRow : OpenClaim := { program := "ytfeepheckeplmaa", sum := "0416f36448e51690f7e591fdce1eccbc26b514bd32dc824cc8b508eadade9420", func := "loop.example/g02081/laws.FnExactIsPermutation", spec := "fnExactIsPermutation", apart := false, narrowed := true }
def FnExactIsPermutationUptoSaid : Prop := fnExactIsPermutationUptoRow.holds Try.pinned (OpenSpec.upto fnExactIsPermutationSpec)

/-- 'laws.FnExactGraphOfPermutation', WHERE WHAT IT READS IS OF BULK AT MOST 1048576: true; the input reads as it did. -/
def fnExactGraphOfPermutationUptoRow : OpenClaim := { program := "ytfeepheckeplmaa", sum := "0416f36448e51690f7e591fdce1eccbc26b514bd32dc824cc8b508eadade9420", func := "loop.example/g02081/laws.FnExactGraphOfPermutation", spec := "fnExactGraphOfPermutation", unfollowed := true, recurses := true, apart := false, narrowed := true }
def FnExactGraphOfPermutationUptoSaid : Prop := fnExactGraphOfPermutationUptoRow.holds Try.pinned (OpenSpec.upto fnExactGraphOfPermutationSpec)

end Rows
end Go.Proofs.Ytfeepheckeplmaa
