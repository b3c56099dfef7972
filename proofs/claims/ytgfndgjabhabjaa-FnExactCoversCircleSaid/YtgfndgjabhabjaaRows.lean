/-
  No cell of these rows narrows 'for every input' (looked for: loops, veiled, ifaces, maps, wideKeys, modest, calm, conditions, laid).
  DERIVED. THE GIVEN ROWS OF THIS SEAT. 12 by the template 'for every input the law returns true; each argument reads behind the call as it read before'; 0 by the template 'total and deterministic' (their statements: YtgfndgjabhabjaaTotals.lean).
  GIVEN WITH THE SEED: the statements are not yours to turn. If you find one false, say at which input.
  Laid BY PROGRAM, IN A SANDBOX (cutbox-rows.mjs): the forced cells as the released guide's own fill.sh prints them over the translation 559a6ad1b7e2ffde… (all of the seat's roots in one cut). By AI agents, Wed Nov 11 2026. No macro, syntax, notation, axiom, sorry.
-/
import Derived.Test.YtgfndgjabhabjaaChecked
import GoSem.Claim
import GoSem.ClaimJoined
import GoSem.ClaimMapViews
import Derived.JoinedTies
import Derived.KernelRfl
namespace Go.Proofs.Ytgfndgjabhabjaa
/- THE CELL 'sum', in the pinned program and in every row, IS THE sha256 OF THE DUMP (.gsa) THAT YtgfndgjabhabjaaProg.lean LOADS. Nothing in Lean hashes anything: it is a label: what it is worth is what the hold of that sum in a sandbox is worth. -/
noncomputable def Try.pinned : Pinned := { name := "ytgfndgjabhabjaa", sum := "559a6ad1b7e2ffdecdaa93f5ad1c437bc59267412008c78c405e697a0ddf45ea", checked := Try.checked }
namespace Rows
def none {H : Type} : Left H := { results := [], args := [] }

/-- 'laws.FnExactCoversCircle': WHATEVER THE INPUT: true; the input reads as it did. -/
def fnExactCoversCircleSpec : ChangeSpec := { name := "fnExactCoversCircle", fn := fun _ => fun
  | [d1, d2] => { results := [.lit (.bool true)], args := [d1, d2] }
  | _ => none }
def fnExactCoversCircleRow : OpenClaim := { program := "ytgfndgjabhabjaa", sum := "559a6ad1b7e2ffdecdaa93f5ad1c437bc59267412008c78c405e697a0ddf45ea", func := "loop.example/g02081/laws.FnExactCoversCircle", spec := "fnExactCoversCircle", unfollowed := true, recurses := true, apart := false }
def FnExactCoversCircleSaid : Prop := fnExactCoversCircleRow.holds Try.pinned (OpenSpec.ofChange fnExactCoversCircleSpec)

/-- ITS FALSE NEIGHBOUR: 'it returns false'. Refute it at one input. -/
def fnExactCoversCircleWrong : ChangeSpec := { name := "fnExactCoversCircle", fn := fun _ => fun
  | [d1, d2] => { results := [.lit (.bool false)], args := [d1, d2] }
  | _ => none }
def FnExactCoversCircleWrongFalsely : Prop := fnExactCoversCircleRow.holds Try.pinned (OpenSpec.ofChange fnExactCoversCircleWrong)

/-- 'laws.FnExactCutArcs': WHATEVER THE INPUT: true; the input reads as it did. -/
def fnExactCutArcsSpec : ChangeSpec := { name := "fnExactCutArcs", fn := fun _ => fun
  | [d1, d2] => { results := [.lit (.bool true)], args := [d1, d2] }
  | _ => none }
def fnExactCutArcsRow : OpenClaim := { program := "ytgfndgjabhabjaa", sum := "559a6ad1b7e2ffdecdaa93f5ad1c437bc59267412008c78c405e697a0ddf45ea", func := "loop.example/g02081/laws.FnExactCutArcs", spec := "fnExactCutArcs", apart := false }
def FnExactCutArcsSaid : Prop := fnExactCutArcsRow.holds Try.pinned (OpenSpec.ofChange fnExactCutArcsSpec)

/-- ITS FALSE NEIGHBOUR: 'it returns false'. Refute it at one input. -/
def fnExactCutArcsWrong : ChangeSpec := { name := "fnExactCutArcs", fn := fun _ => fun
  | [d1, d2] => { results := [.lit (.bool false)], args := [d1, d2] }
  | _ => none }
def FnExactCutArcsWrongFalsely : Prop := fnExactCutArcsRow.holds Try.pinned (OpenSpec.ofChange fnExactCutArcsWrong)

/-- 'laws.FnExactFillOf': WHATEVER THE INPUT: true; the input reads as it did. -/
def fnExactFillOfSpec : ChangeSpec := { name := "fnExactFillOf", fn := fun _ => fun
  | [d1, d2] => { results := [.lit (.bool true)], args := [d1, d2] }
  | _ => none }
def fnExactFillOfRow : OpenClaim := { program := "ytgfndgjabhabjaa", sum := "559a6ad1b7e2ffdecdaa93f5ad1c437bc59267412008c78c405e697a0ddf45ea", func := "loop.example/g02081/laws.FnExactFillOf", spec := "fnExactFillOf", unfollowed := true, recurses := true, apart := false }
def FnExactFillOfSaid : Prop := fnExactFillOfRow.holds Try.pinned (OpenSpec.ofChange fnExactFillOfSpec)

/-- ITS FALSE NEIGHBOUR: 'it returns false'. Refute it at one input. -/
def fnExactFillOfWrong : ChangeSpec := { name := "fnExactFillOf", fn := fun _ => fun
  | [d1, d2] => { results := [.lit (.bool false)], args := [d1, d2] }
  | _ => none }
def FnExactFillOfWrongFalsely : Prop := fnExactFillOfRow.holds Try.pinned (OpenSpec.ofChange fnExactFillOfWrong)

/-- 'laws.FnExactWidthOfOrder': WHATEVER THE INPUT: true; the input reads as it did. -/
def fnExactWidthOfOrderSpec : ChangeSpec := { name := "fnExactWidthOfOrder", fn := fun _ => fun
  | [d1, d2] => { results := [.lit (.bool true)], args := [d1, d2] }
  | _ => none }
def fnExactWidthOfOrderRow : OpenClaim := { program := "ytgfndgjabhabjaa", sum := "559a6ad1b7e2ffdecdaa93f5ad1c437bc59267412008c78c405e697a0ddf45ea", func := "loop.example/g02081/laws.FnExactWidthOfOrder", spec := "fnExactWidthOfOrder", unfollowed := true, recurses := true, apart := false }
def FnExactWidthOfOrderSaid : Prop := fnExactWidthOfOrderRow.holds Try.pinned (OpenSpec.ofChange fnExactWidthOfOrderSpec)

/-- ITS FALSE NEIGHBOUR: 'it returns false'. Refute it at one input. -/
def fnExactWidthOfOrderWrong : ChangeSpec := { name := "fnExactWidthOfOrder", fn := fun _ => fun
  | [d1, d2] => { results := [.lit (.bool false)], args := [d1, d2] }
  | _ => none }
def FnExactWidthOfOrderWrongFalsely : Prop := fnExactWidthOfOrderRow.holds Try.pinned (OpenSpec.ofChange fnExactWidthOfOrderWrong)

/-- 'laws.FnExactOptionalEdges': WHATEVER THE INPUT: true; the input reads as it did. -/
def fnExactOptionalEdgesSpec : ChangeSpec := { name := "fnExactOptionalEdges", fn := fun _ => fun
  | [d1, d2] => { results := [.lit (.bool true)], args := [d1, d2] }
  | _ => none }
def fnExactOptionalEdgesRow : OpenClaim := { program := "ytgfndgjabhabjaa", sum := "559a6ad1b7e2ffdecdaa93f5ad1c437bc59267412008c78c405e697a0ddf45ea", func := "loop.example/g02081/laws.FnExactOptionalEdges", spec := "fnExactOptionalEdges", apart := false }
def FnExactOptionalEdgesSaid : Prop := fnExactOptionalEdgesRow.holds Try.pinned (OpenSpec.ofChange fnExactOptionalEdgesSpec)

/-- ITS FALSE NEIGHBOUR: 'it returns false'. Refute it at one input. -/
def fnExactOptionalEdgesWrong : ChangeSpec := { name := "fnExactOptionalEdges", fn := fun _ => fun
  | [d1, d2] => { results := [.lit (.bool false)], args := [d1, d2] }
  | _ => none }
def FnExactOptionalEdgesWrongFalsely : Prop := fnExactOptionalEdgesRow.holds Try.pinned (OpenSpec.ofChange fnExactOptionalEdgesWrong)

/-- 'laws.FnExactIsMatching': WHATEVER THE INPUT: true; the input reads as it did. -/
def fnExactIsMatchingSpec : ChangeSpec := { name := "fnExactIsMatching", fn := fun _ => fun
  | [d1, d2] => { results := [.lit (.bool true)], args := [d1, d2] }
  | _ => none }
def fnExactIsMatchingRow : OpenClaim := { program := "ytgfndgjabhabjaa", sum := "559a6ad1b7e2ffdecdaa93f5ad1c437bc59267412008c78c405e697a0ddf45ea", func := "loop.example/g02081/laws.FnExactIsMatching", spec := "fnExactIsMatching", apart := false }
def FnExactIsMatchingSaid : Prop := fnExactIsMatchingRow.holds Try.pinned (OpenSpec.ofChange fnExactIsMatchingSpec)

/-- ITS FALSE NEIGHBOUR: 'it returns false'. Refute it at one input. -/
def fnExactIsMatchingWrong : ChangeSpec := { name := "fnExactIsMatching", fn := fun _ => fun
  | [d1, d2] => { results := [.lit (.bool false)], args := [d1, d2] }
  | _ => none }
def FnExactIsMatchingWrongFalsely : Prop := fnExactIsMatchingRow.holds Try.pinned (OpenSpec.ofChange fnExactIsMatchingWrong)

/-- 'laws.FnExactGraphOfThreshold': WHATEVER THE INPUT: true; the input reads as it did. -/
def fnExactGraphOfThresholdSpec : ChangeSpec := { name := "fnExactGraphOfThreshold", fn := fun _ => fun
  | [d1, d2] => { results := [.lit (.bool true)], args := [d1, d2] }
  | _ => none }
def fnExactGraphOfThresholdRow : OpenClaim := { program := "ytgfndgjabhabjaa", sum := "559a6ad1b7e2ffdecdaa93f5ad1c437bc59267412008c78c405e697a0ddf45ea", func := "loop.example/g02081/laws.FnExactGraphOfThreshold", spec := "fnExactGraphOfThreshold", unfollowed := true, recurses := true, apart := false }
def FnExactGraphOfThresholdSaid : Prop := fnExactGraphOfThresholdRow.holds Try.pinned (OpenSpec.ofChange fnExactGraphOfThresholdSpec)

/-- ITS FALSE NEIGHBOUR: 'it returns false'. Refute it at one input. -/
def fnExactGraphOfThresholdWrong : ChangeSpec := { name := "fnExactGraphOfThreshold", fn := fun _ => fun
  | [d1, d2] => { results := [.lit (.bool false)], args := [d1, d2] }
  | _ => none }
def FnExactGraphOfThresholdWrongFalsely : Prop := fnExactGraphOfThresholdRow.holds Try.pinned (OpenSpec.ofChange fnExactGraphOfThresholdWrong)

/-- 'laws.FnExactModelOfOrder': WHATEVER THE INPUT: true; the input reads as it did. -/
def fnExactModelOfOrderSpec : ChangeSpec := { name := "fnExactModelOfOrder", fn := fun _ => fun
  | [d1, d2] => { results := [.lit (.bool true)], args := [d1, d2] }
  | _ => none }
def fnExactModelOfOrderRow : OpenClaim := { program := "ytgfndgjabhabjaa", sum := "559a6ad1b7e2ffdecdaa93f5ad1c437bc59267412008c78c405e697a0ddf45ea", func := "loop.example/g02081/laws.FnExactModelOfOrder", spec := "fnExactModelOfOrder", unfollowed := true, recurses := true, apart := false }
def FnExactModelOfOrderSaid : Prop := fnExactModelOfOrderRow.holds Try.pinned (OpenSpec.ofChange fnExactModelOfOrderSpec)

/-- ITS FALSE NEIGHBOUR: 'it returns false'. Refute it at one input. -/
def fnExactModelOfOrderWrong : ChangeSpec := { name := "fnExactModelOfOrder", fn := fun _ => fun
  | [d1, d2] => { results := [.lit (.bool false)], args := [d1, d2] }
  | _ => none }
def FnExactModelOfOrderWrongFalsely : Prop := fnExactModelOfOrderRow.holds Try.pinned (OpenSpec.ofChange fnExactModelOfOrderWrong)

/-- 'laws.FnExactIsSimple': WHATEVER THE INPUT: true; the input reads as it did. -/
def fnExactIsSimpleSpec : ChangeSpec := { name := "fnExactIsSimple", fn := fun _ => fun
  | [d1, d2, d3] => { results := [.lit (.bool true)], args := [d1, d2, d3] }
  | _ => none }
def fnExactIsSimpleRow : OpenClaim := { program := "ytgfndgjabhabjaa", sum := "559a6ad1b7e2ffdecdaa93f5ad1c437bc59267412008c78c405e697a0ddf45ea", func := "loop.example/g02081/laws.FnExactIsSimple", spec := "fnExactIsSimple", unfollowed := true, recurses := true, apart := false }
def FnExactIsSimpleSaid : Prop := fnExactIsSimpleRow.holds Try.pinned (OpenSpec.ofChange fnExactIsSimpleSpec)

/-- ITS FALSE NEIGHBOUR: 'it returns false'. Refute it at one input. -/
def fnExactIsSimpleWrong : ChangeSpec := { name := "fnExactIsSimple", fn := fun _ => fun
  | [d1, d2, d3] => { results := [.lit (.bool false)], args := [d1, d2, d3] }
  | _ => none }
def FnExactIsSimpleWrongFalsely : Prop := fnExactIsSimpleRow.holds Try.pinned (OpenSpec.ofChange fnExactIsSimpleWrong)

/-- 'laws.FnExactDegreesOf': WHATEVER THE INPUT: true; the input reads as it did. -/
def fnExactDegreesOfSpec : ChangeSpec := { name := "fnExactDegreesOf", fn := fun _ => fun
  | [d] => { results := [.lit (.bool true)], args := [d] }
  | _ => none }
def fnExactDegreesOfRow : OpenClaim := { program := "ytgfndgjabhabjaa", sum := "559a6ad1b7e2ffdecdaa93f5ad1c437bc59267412008c78c405e697a0ddf45ea", func := "loop.example/g02081/laws.FnExactDegreesOf", spec := "fnExactDegreesOf", apart := false }
def FnExactDegreesOfSaid : Prop := fnExactDegreesOfRow.holds Try.pinned (OpenSpec.ofChange fnExactDegreesOfSpec)

/-- ITS FALSE NEIGHBOUR: 'it returns false'. Refute it at one input. -/
def fnExactDegreesOfWrong : ChangeSpec := { name := "fnExactDegreesOf", fn := fun _ => fun
  | [d] => { results := [.lit (.bool false)], args := [d] }
  | _ => none }
def FnExactDegreesOfWrongFalsely : Prop := fnExactDegreesOfRow.holds Try.pinned (OpenSpec.ofChange fnExactDegreesOfWrong)

/-- 'laws.FnExactSplitByDegrees': WHATEVER THE INPUT: true; the input reads as it did. -/
def fnExactSplitByDegreesSpec : ChangeSpec := { name := "fnExactSplitByDegrees", fn := fun _ => fun
  | [d] => { results := [.lit (.bool true)], args := [d] }
  | _ => none }
def fnExactSplitByDegreesRow : OpenClaim := { program := "ytgfndgjabhabjaa", sum := "559a6ad1b7e2ffdecdaa93f5ad1c437bc59267412008c78c405e697a0ddf45ea", func := "loop.example/g02081/laws.FnExactSplitByDegrees", spec := "fnExactSplitByDegrees", apart := false }
def FnExactSplitByDegreesSaid : Prop := fnExactSplitByDegreesRow.holds Try.pinned (OpenSpec.ofChange fnExactSplitByDegreesSpec)

/-- ITS FALSE NEIGHBOUR: 'it returns false'. Refute it at one input. -/
def fnExactSplitByDegreesWrong : ChangeSpec := { name := "fnExactSplitByDegrees", fn := fun _ => fun
  | [d] => { results := [.lit (.bool false)], args := [d] }
  | _ => none }
def FnExactSplitByDegreesWrongFalsely : Prop := fnExactSplitByDegreesRow.holds Try.pinned (OpenSpec.ofChange fnExactSplitByDegreesWrong)

/-- 'laws.FnExactLongestDecreasing': WHATEVER THE INPUT: true; the input reads as it did. -/
def fnExactLongestDecreasingSpec : ChangeSpec := { name := "fnExactLongestDecreasing", fn := fun _ => fun
  | [d] => { results := [.lit (.bool true)], args := [d] }
  | _ => none }
def fnExactLongestDecreasingRow : OpenClaim := { program := "ytgfndgjabhabjaa", sum := "559a6ad1b7e2ffdecdaa93f5ad1c437bc59267412008c78c405e697a0ddf45ea", func := "loop.example/g02081/laws.FnExactLongestDecreasing", spec := "fnExactLongestDecreasing", unfollowed := true, recurses := true, apart := false }
def FnExactLongestDecreasingSaid : Prop := fnExactLongestDecreasingRow.holds Try.pinned (OpenSpec.ofChange fnExactLongestDecreasingSpec)

/-- ITS FALSE NEIGHBOUR: 'it returns false'. Refute it at one input. -/
def fnExactLongestDecreasingWrong : ChangeSpec := { name := "fnExactLongestDecreasing", fn := fun _ => fun
  | [d] => { results := [.lit (.bool false)], args := [d] }
  | _ => none }
def FnExactLongestDecreasingWrongFalsely : Prop := fnExactLongestDecreasingRow.holds Try.pinned (OpenSpec.ofChange fnExactLongestDecreasingWrong)

/- THE SECOND FORM. 'bulk': how many values and letters a reading holds, each counted each time it is reached (what is shared counts as often as it is met; a slice's spare places count too). A statement '..UptoSaid' is the law's where the arguments, and the package variables that the reading takes, are together of bulk at most 1048576: NARROWER than '..Said'. Prove '..Said' where nothing that the law and all that it calls make is longer than what came in: it says more and counts as full. Else prove '..UptoSaid'. A law counts once. -/
mutual
def uptoBulk {H : Type} : DataW H → Nat
  | .lit (.string bytes) => bytes.length + 1
  | .lit _ => 1
  | .nil => 1
  | .ptr d => uptoBulk d + 1
  | .slice elems spare => uptoBulkAll elems + uptoBulkAll spare + 1
  | .agg parts => uptoBulkAll parts + 1
  | .iface _ d => uptoBulk d + 1
  | .map entries => uptoBulkEntries entries + 1
  | .held _ => 1
def uptoBulkAll {H : Type} : List (DataW H) → Nat
  | [] => 0
  | d :: r => uptoBulk d + uptoBulkAll r
def uptoBulkEntries {H : Type} : List (Lit × DataW H) → Nat
  | [] => 0
  | x :: r => uptoBulkEntry x + uptoBulkEntries r
def uptoBulkEntry {H : Type} : Lit × DataW H → Nat
  | (.string bytes, d) => bytes.length + uptoBulk d + 1
  | (_, d) => uptoBulk d + 1
 end
def uptoSmall : (H : Type) → List (DataW H) → Bool := fun _ ds => decide (uptoBulkAll ds ≤ 1048576)
def OpenSpec.upto (s : _root_.Go.ChangeSpec) : _root_.Go.OpenSpec := { _root_.Go.OpenSpec.ofChange s with cond := some uptoSmall }

/-- 'laws.FnExactCoversCircle', WHERE WHAT IT READS IS OF BULK AT MOST 1048576: true; the input reads as it did. -/
def fnExactCoversCircleUptoRow : OpenClaim := { program := "ytgfndgjabhabjaa", sum := "559a6ad1b7e2ffdecdaa93f5ad1c437bc59267412008c78c405e697a0ddf45ea", func := "loop.example/g02081/laws.FnExactCoversCircle", spec := "fnExactCoversCircle", unfollowed := true, recurses := true, apart := false, narrowed := true }
def FnExactCoversCircleUptoSaid : Prop := fnExactCoversCircleUptoRow.holds Try.pinned (OpenSpec.upto fnExactCoversCircleSpec)

/-- 'laws.FnExactCutArcs', WHERE WHAT IT READS IS OF BULK AT MOST 1048576: true; the input reads as it did. -/
def fnExactCutArcsUptoRow : OpenClaim := { program := "ytgfndgjabhabjaa", sum := "559a6ad1b7e2ffdecdaa93f5ad1c437bc59267412008c78c405e697a0ddf45ea", func := "loop.example/g02081/laws.FnExactCutArcs", spec := "fnExactCutArcs", apart := false, narrowed := true }
def FnExactCutArcsUptoSaid : Prop := fnExactCutArcsUptoRow.holds Try.pinned (OpenSpec.upto fnExactCutArcsSpec)

/-- 'laws.FnExactFillOf', WHERE WHAT IT READS IS OF BULK AT MOST 1048576: true; the input reads as it did. -/
def fnExactFillOfUptoRow : OpenClaim := { program := "ytgfndgjabhabjaa", sum := "559a6ad1b7e2ffdecdaa93f5ad1c437bc59267412008c78c405e697a0ddf45ea", func := "loop.example/g02081/laws.FnExactFillOf", spec := "fnExactFillOf", unfollowed := true, recurses := true, apart := false, narrowed := true }
def FnExactFillOfUptoSaid : Prop := fnExactFillOfUptoRow.holds Try.pinned (OpenSpec.upto fnExactFillOfSpec)

/-- 'laws.FnExactWidthOfOrder', WHERE WHAT IT READS IS OF BULK AT MOST 1048576: true; the input reads as it did. -/
def fnExactWidthOfOrderUptoRow : OpenClaim := { program := "ytgfndgjabhabjaa", sum := "559a6ad1b7e2ffdecdaa93f5ad1c437bc59267412008c78c405e697a0ddf45ea", func := "loop.example/g02081/laws.FnExactWidthOfOrder", spec := "fnExactWidthOfOrder", unfollowed := true, recurses := true, apart := false, narrowed := true }
def FnExactWidthOfOrderUptoSaid : Prop := fnExactWidthOfOrderUptoRow.holds Try.pinned (OpenSpec.upto fnExactWidthOfOrderSpec)

/-- 'laws.FnExactOptionalEdges', WHERE WHAT IT READS IS OF BULK AT MOST 1048576: true; the input reads as it did. -/
def fnExactOptionalEdgesUptoRow : OpenClaim := { program := "ytgfndgjabhabjaa", sum := "559a6ad1b7e2ffdecdaa93f5ad1c437bc59267412008c78c405e697a0ddf45ea", func := "loop.example/g02081/laws.FnExactOptionalEdges", spec := "fnExactOptionalEdges", apart := false, narrowed := true }
def FnExactOptionalEdgesUptoSaid : Prop := fnExactOptionalEdgesUptoRow.holds Try.pinned (OpenSpec.upto fnExactOptionalEdgesSpec)

/-- 'laws.FnExactIsMatching', WHERE WHAT IT READS IS OF BULK AT MOST 1048576: true; the input reads as it did. -/
def fnExactIsMatchingUptoRow : OpenClaim := { program := "ytgfndgjabhabjaa", sum := "559a6ad1b7e2ffdecdaa93f5ad1c437bc59267412008c78c405e697a0ddf45ea", func := "loop.example/g02081/laws.FnExactIsMatching", spec := "fnExactIsMatching", apart := false, narrowed := true }
def FnExactIsMatchingUptoSaid : Prop := fnExactIsMatchingUptoRow.holds Try.pinned (OpenSpec.upto fnExactIsMatchingSpec)

/-- 'laws.FnExactGraphOfThreshold', WHERE WHAT IT READS IS OF BULK AT MOST 1048576: true; the input reads as it did. -/
def fnExactGraphOfThresholdUptoRow : OpenClaim := { program := "ytgfndgjabhabjaa", sum := "559a6ad1b7e2ffdecdaa93f5ad1c437bc59267412008c78c405e697a0ddf45ea", func := "loop.example/g02081/laws.FnExactGraphOfThreshold", spec := "fnExactGraphOfThreshold", unfollowed := true, recurses := true, apart := false, narrowed := true }
def FnExactGraphOfThresholdUptoSaid : Prop := fnExactGraphOfThresholdUptoRow.holds Try.pinned (OpenSpec.upto fnExactGraphOfThresholdSpec)

/-- 'laws.FnExactModelOfOrder', WHERE WHAT IT READS IS OF BULK AT MOST 1048576: true; the input reads as it did. -/
def fnExactModelOfOrderUptoRow : OpenClaim := { program := "ytgfndgjabhabjaa", sum := "559a6ad1b7e2ffdecdaa93f5ad1c437bc59267412008c78c405e697a0ddf45ea", func := "loop.example/g02081/laws.FnExactModelOfOrder", spec := "fnExactModelOfOrder", unfollowed := true, recurses := true, apart := false, narrowed := true }
def FnExactModelOfOrderUptoSaid : Prop := fnExactModelOfOrderUptoRow.holds Try.pinned (OpenSpec.upto fnExactModelOfOrderSpec)

/-- 'laws.FnExactIsSimple', WHERE WHAT IT READS IS OF BULK AT MOST 1048576: true; the input reads as it did. -/
def fnExactIsSimpleUptoRow : OpenClaim := { program := "ytgfndgjabhabjaa", sum := "559a6ad1b7e2ffdecdaa93f5ad1c437bc59267412008c78c405e697a0ddf45ea", func := "loop.example/g02081/laws.FnExactIsSimple", spec := "fnExactIsSimple", unfollowed := true, recurses := true, apart := false, narrowed := true }
def FnExactIsSimpleUptoSaid : Prop := fnExactIsSimpleUptoRow.holds Try.pinned (OpenSpec.upto fnExactIsSimpleSpec)

/-- 'laws.FnExactDegreesOf', WHERE WHAT IT READS IS OF BULK AT MOST 1048576: true; the input reads as it did. -/
def fnExactDegreesOfUptoRow : OpenClaim := { program := "ytgfndgjabhabjaa", sum := "559a6ad1b7e2ffdecdaa93f5ad1c437bc59267412008c78c405e697a0ddf45ea", func := "loop.example/g02081/laws.FnExactDegreesOf", spec := "fnExactDegreesOf", apart := false, narrowed := true }
def FnExactDegreesOfUptoSaid : Prop := fnExactDegreesOfUptoRow.holds Try.pinned (OpenSpec.upto fnExactDegreesOfSpec)

/-- 'laws.FnExactSplitByDegrees', WHERE WHAT IT READS IS OF BULK AT MOST 1048576: true; the input reads as it did. -/
def fnExactSplitByDegreesUptoRow : OpenClaim := { program := "ytgfndgjabhabjaa", sum := "559a6ad1b7e2ffdecdaa93f5ad1c437bc59267412008c78c405e697a0ddf45ea", func := "loop.example/g02081/laws.FnExactSplitByDegrees", spec := "fnExactSplitByDegrees", apart := false, narrowed := true }
def FnExactSplitByDegreesUptoSaid : Prop := fnExactSplitByDegreesUptoRow.holds Try.pinned (OpenSpec.upto fnExactSplitByDegreesSpec)

/-- 'laws.FnExactLongestDecreasing', WHERE WHAT IT READS IS OF BULK AT MOST 1048576: true; the input reads as it did. -/
def fnExactLongestDecreasingUptoRow : OpenClaim := { program := "ytgfndgjabhabjaa", sum := "559a6ad1b7e2ffdecdaa93f5ad1c437bc59267412008c78c405e697a0ddf45ea", func := "loop.example/g02081/laws.FnExactLongestDecreasing", spec := "fnExactLongestDecreasing", unfollowed := true, recurses := true, apart := false, narrowed := true }
def FnExactLongestDecreasingUptoSaid : Prop := fnExactLongestDecreasingUptoRow.holds Try.pinned (OpenSpec.upto fnExactLongestDecreasingSpec)

end Rows
end Go.Proofs.Ytgfndgjabhabjaa
