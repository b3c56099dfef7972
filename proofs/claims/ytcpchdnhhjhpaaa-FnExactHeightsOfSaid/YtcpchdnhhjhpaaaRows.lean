/-
  No cell of these rows narrows 'for every input' (looked for: loops, veiled, ifaces, maps, wideKeys, modest, calm, conditions, laid).
  DERIVED. THE GIVEN ROWS OF THIS SEAT. 13 by the template 'for every input the law returns true; each argument reads behind the call as it read before'; 0 by the template 'total and deterministic' (their statements: YtcpchdnhhjhpaaaTotals.lean).
  GIVEN WITH THE SEED: the statements are not yours to turn. If you find one false, say at which input.
  Laid BY PROGRAM, IN A SANDBOX (cutbox-rows.mjs): the forced cells as the released guide's own fill.sh prints them over the translation c23111d53683595c… (all of the seat's roots in one cut). By AI agents, Wed Nov 11 2026. No macro, syntax, notation, axiom, sorry.
-/
import Derived.Test.YtcpchdnhhjhpaaaChecked
import GoSem.Claim
import GoSem.ClaimJoined
import GoSem.ClaimMapViews
import Derived.JoinedTies
import Derived.KernelRfl
namespace Go.Proofs.Ytcpchdnhhjhpaaa
/- THE CELL 'sum', in the pinned program and in every row, IS THE sha256 OF THE DUMP (.gsa) THAT YtcpchdnhhjhpaaaProg.lean LOADS. Nothing in Lean hashes anything: it is a label: what it is worth is what the hold of that sum in a sandbox is worth. -/
noncomputable def Try.pinned : Pinned := { name := "ytcpchdnhhjhpaaa", sum := "c23111d53683595cf9d03f0e9ee63030aa4e82c753997c4715100ccaf09a6f50", checked := Try.checked }
namespace Rows
def none {H : Type} : Left H := { results := [], args := [] }

/-- 'laws.FnExactLexOrder': WHATEVER THE INPUT: true; the input reads as it did. -/
def fnExactLexOrderSpec : ChangeSpec := { name := "fnExactLexOrder", fn := fun _ => fun
  | [d1, d2] => { results := [.lit (.bool true)], args := [d1, d2] }
  | _ => none }
def fnExactLexOrderRow : OpenClaim := { program := "ytcpchdnhhjhpaaa", sum := "c23111d53683595cf9d03f0e9ee63030aa4e82c753997c4715100ccaf09a6f50", func := "loop.example/g02081/laws.FnExactLexOrder", spec := "fnExactLexOrder", unfollowed := true, recurses := true, apart := false }
def FnExactLexOrderSaid : Prop := fnExactLexOrderRow.holds Try.pinned (OpenSpec.ofChange fnExactLexOrderSpec)

/-- ITS FALSE NEIGHBOUR: 'it returns false'. Refute it at one input. -/
def fnExactLexOrderWrong : ChangeSpec := { name := "fnExactLexOrder", fn := fun _ => fun
  | [d1, d2] => { results := [.lit (.bool false)], args := [d1, d2] }
  | _ => none }
def FnExactLexOrderWrongFalsely : Prop := fnExactLexOrderRow.holds Try.pinned (OpenSpec.ofChange fnExactLexOrderWrong)

/-- 'laws.FnExactCardinalityOrder': WHATEVER THE INPUT: true; the input reads as it did. -/
def fnExactCardinalityOrderSpec : ChangeSpec := { name := "fnExactCardinalityOrder", fn := fun _ => fun
  | [d1, d2] => { results := [.lit (.bool true)], args := [d1, d2] }
  | _ => none }
def fnExactCardinalityOrderRow : OpenClaim := { program := "ytcpchdnhhjhpaaa", sum := "c23111d53683595cf9d03f0e9ee63030aa4e82c753997c4715100ccaf09a6f50", func := "loop.example/g02081/laws.FnExactCardinalityOrder", spec := "fnExactCardinalityOrder", unfollowed := true, recurses := true, apart := false }
def FnExactCardinalityOrderSaid : Prop := fnExactCardinalityOrderRow.holds Try.pinned (OpenSpec.ofChange fnExactCardinalityOrderSpec)

/-- ITS FALSE NEIGHBOUR: 'it returns false'. Refute it at one input. -/
def fnExactCardinalityOrderWrong : ChangeSpec := { name := "fnExactCardinalityOrder", fn := fun _ => fun
  | [d1, d2] => { results := [.lit (.bool false)], args := [d1, d2] }
  | _ => none }
def FnExactCardinalityOrderWrongFalsely : Prop := fnExactCardinalityOrderRow.holds Try.pinned (OpenSpec.ofChange fnExactCardinalityOrderWrong)

/-- 'laws.FnExactIsLexElimination': WHATEVER THE INPUT: true; the input reads as it did. -/
def fnExactIsLexEliminationSpec : ChangeSpec := { name := "fnExactIsLexElimination", fn := fun _ => fun
  | [d1, d2] => { results := [.lit (.bool true)], args := [d1, d2] }
  | _ => none }
def fnExactIsLexEliminationRow : OpenClaim := { program := "ytcpchdnhhjhpaaa", sum := "c23111d53683595cf9d03f0e9ee63030aa4e82c753997c4715100ccaf09a6f50", func := "loop.example/g02081/laws.FnExactIsLexElimination", spec := "fnExactIsLexElimination", unfollowed := true, recurses := true, apart := false }
def FnExactIsLexEliminationSaid : Prop := fnExactIsLexEliminationRow.holds Try.pinned (OpenSpec.ofChange fnExactIsLexEliminationSpec)

/-- ITS FALSE NEIGHBOUR: 'it returns false'. Refute it at one input. -/
def fnExactIsLexEliminationWrong : ChangeSpec := { name := "fnExactIsLexElimination", fn := fun _ => fun
  | [d1, d2] => { results := [.lit (.bool false)], args := [d1, d2] }
  | _ => none }
def FnExactIsLexEliminationWrongFalsely : Prop := fnExactIsLexEliminationRow.holds Try.pinned (OpenSpec.ofChange fnExactIsLexEliminationWrong)

/-- 'laws.FnExactGraphOfArcs': WHATEVER THE INPUT: true; the input reads as it did. -/
def fnExactGraphOfArcsSpec : ChangeSpec := { name := "fnExactGraphOfArcs", fn := fun _ => fun
  | [d] => { results := [.lit (.bool true)], args := [d] }
  | _ => none }
def fnExactGraphOfArcsRow : OpenClaim := { program := "ytcpchdnhhjhpaaa", sum := "c23111d53683595cf9d03f0e9ee63030aa4e82c753997c4715100ccaf09a6f50", func := "loop.example/g02081/laws.FnExactGraphOfArcs", spec := "fnExactGraphOfArcs", unfollowed := true, recurses := true, apart := false }
def FnExactGraphOfArcsSaid : Prop := fnExactGraphOfArcsRow.holds Try.pinned (OpenSpec.ofChange fnExactGraphOfArcsSpec)

/-- ITS FALSE NEIGHBOUR: 'it returns false'. Refute it at one input. -/
def fnExactGraphOfArcsWrong : ChangeSpec := { name := "fnExactGraphOfArcs", fn := fun _ => fun
  | [d] => { results := [.lit (.bool false)], args := [d] }
  | _ => none }
def FnExactGraphOfArcsWrongFalsely : Prop := fnExactGraphOfArcsRow.holds Try.pinned (OpenSpec.ofChange fnExactGraphOfArcsWrong)

/-- 'laws.FnExactCutArcs': WHATEVER THE INPUT: true; the input reads as it did. -/
def fnExactCutArcsSpec : ChangeSpec := { name := "fnExactCutArcs", fn := fun _ => fun
  | [d1, d2] => { results := [.lit (.bool true)], args := [d1, d2] }
  | _ => none }
def fnExactCutArcsRow : OpenClaim := { program := "ytcpchdnhhjhpaaa", sum := "c23111d53683595cf9d03f0e9ee63030aa4e82c753997c4715100ccaf09a6f50", func := "loop.example/g02081/laws.FnExactCutArcs", spec := "fnExactCutArcs", apart := false }
def FnExactCutArcsSaid : Prop := fnExactCutArcsRow.holds Try.pinned (OpenSpec.ofChange fnExactCutArcsSpec)

/-- ITS FALSE NEIGHBOUR: 'it returns false'. Refute it at one input. -/
def fnExactCutArcsWrong : ChangeSpec := { name := "fnExactCutArcs", fn := fun _ => fun
  | [d1, d2] => { results := [.lit (.bool false)], args := [d1, d2] }
  | _ => none }
def FnExactCutArcsWrongFalsely : Prop := fnExactCutArcsRow.holds Try.pinned (OpenSpec.ofChange fnExactCutArcsWrong)

/-- 'laws.FnExactCoversCircle': WHATEVER THE INPUT: true; the input reads as it did. -/
def fnExactCoversCircleSpec : ChangeSpec := { name := "fnExactCoversCircle", fn := fun _ => fun
  | [d1, d2] => { results := [.lit (.bool true)], args := [d1, d2] }
  | _ => none }
def fnExactCoversCircleRow : OpenClaim := { program := "ytcpchdnhhjhpaaa", sum := "c23111d53683595cf9d03f0e9ee63030aa4e82c753997c4715100ccaf09a6f50", func := "loop.example/g02081/laws.FnExactCoversCircle", spec := "fnExactCoversCircle", unfollowed := true, recurses := true, apart := false }
def FnExactCoversCircleSaid : Prop := fnExactCoversCircleRow.holds Try.pinned (OpenSpec.ofChange fnExactCoversCircleSpec)

/-- ITS FALSE NEIGHBOUR: 'it returns false'. Refute it at one input. -/
def fnExactCoversCircleWrong : ChangeSpec := { name := "fnExactCoversCircle", fn := fun _ => fun
  | [d1, d2] => { results := [.lit (.bool false)], args := [d1, d2] }
  | _ => none }
def FnExactCoversCircleWrongFalsely : Prop := fnExactCoversCircleRow.holds Try.pinned (OpenSpec.ofChange fnExactCoversCircleWrong)

/-- 'laws.FnExactGraphOfTree': WHATEVER THE INPUT: true; the input reads as it did. -/
def fnExactGraphOfTreeSpec : ChangeSpec := { name := "fnExactGraphOfTree", fn := fun _ => fun
  | [d1, d2] => { results := [.lit (.bool true)], args := [d1, d2] }
  | _ => none }
def fnExactGraphOfTreeRow : OpenClaim := { program := "ytcpchdnhhjhpaaa", sum := "c23111d53683595cf9d03f0e9ee63030aa4e82c753997c4715100ccaf09a6f50", func := "loop.example/g02081/laws.FnExactGraphOfTree", spec := "fnExactGraphOfTree", unfollowed := true, recurses := true, apart := false }
def FnExactGraphOfTreeSaid : Prop := fnExactGraphOfTreeRow.holds Try.pinned (OpenSpec.ofChange fnExactGraphOfTreeSpec)

/-- ITS FALSE NEIGHBOUR: 'it returns false'. Refute it at one input. -/
def fnExactGraphOfTreeWrong : ChangeSpec := { name := "fnExactGraphOfTree", fn := fun _ => fun
  | [d1, d2] => { results := [.lit (.bool false)], args := [d1, d2] }
  | _ => none }
def FnExactGraphOfTreeWrongFalsely : Prop := fnExactGraphOfTreeRow.holds Try.pinned (OpenSpec.ofChange fnExactGraphOfTreeWrong)

/-- 'laws.FnExactFillOf': WHATEVER THE INPUT: true; the input reads as it did. -/
def fnExactFillOfSpec : ChangeSpec := { name := "fnExactFillOf", fn := fun _ => fun
  | [d1, d2] => { results := [.lit (.bool true)], args := [d1, d2] }
  | _ => none }
def fnExactFillOfRow : OpenClaim := { program := "ytcpchdnhhjhpaaa", sum := "c23111d53683595cf9d03f0e9ee63030aa4e82c753997c4715100ccaf09a6f50", func := "loop.example/g02081/laws.FnExactFillOf", spec := "fnExactFillOf", unfollowed := true, recurses := true, apart := false }
def FnExactFillOfSaid : Prop := fnExactFillOfRow.holds Try.pinned (OpenSpec.ofChange fnExactFillOfSpec)

/-- ITS FALSE NEIGHBOUR: 'it returns false'. Refute it at one input. -/
def fnExactFillOfWrong : ChangeSpec := { name := "fnExactFillOf", fn := fun _ => fun
  | [d1, d2] => { results := [.lit (.bool false)], args := [d1, d2] }
  | _ => none }
def FnExactFillOfWrongFalsely : Prop := fnExactFillOfRow.holds Try.pinned (OpenSpec.ofChange fnExactFillOfWrong)

/-- 'laws.FnExactWidthOfOrder': WHATEVER THE INPUT: true; the input reads as it did. -/
def fnExactWidthOfOrderSpec : ChangeSpec := { name := "fnExactWidthOfOrder", fn := fun _ => fun
  | [d1, d2] => { results := [.lit (.bool true)], args := [d1, d2] }
  | _ => none }
def fnExactWidthOfOrderRow : OpenClaim := { program := "ytcpchdnhhjhpaaa", sum := "c23111d53683595cf9d03f0e9ee63030aa4e82c753997c4715100ccaf09a6f50", func := "loop.example/g02081/laws.FnExactWidthOfOrder", spec := "fnExactWidthOfOrder", unfollowed := true, recurses := true, apart := false }
def FnExactWidthOfOrderSaid : Prop := fnExactWidthOfOrderRow.holds Try.pinned (OpenSpec.ofChange fnExactWidthOfOrderSpec)

/-- ITS FALSE NEIGHBOUR: 'it returns false'. Refute it at one input. -/
def fnExactWidthOfOrderWrong : ChangeSpec := { name := "fnExactWidthOfOrder", fn := fun _ => fun
  | [d1, d2] => { results := [.lit (.bool false)], args := [d1, d2] }
  | _ => none }
def FnExactWidthOfOrderWrongFalsely : Prop := fnExactWidthOfOrderRow.holds Try.pinned (OpenSpec.ofChange fnExactWidthOfOrderWrong)

/-- 'laws.FnExactTreeSeparators': WHATEVER THE INPUT: true; the input reads as it did. -/
def fnExactTreeSeparatorsSpec : ChangeSpec := { name := "fnExactTreeSeparators", fn := fun _ => fun
  | [d] => { results := [.lit (.bool true)], args := [d] }
  | _ => none }
def fnExactTreeSeparatorsRow : OpenClaim := { program := "ytcpchdnhhjhpaaa", sum := "c23111d53683595cf9d03f0e9ee63030aa4e82c753997c4715100ccaf09a6f50", func := "loop.example/g02081/laws.FnExactTreeSeparators", spec := "fnExactTreeSeparators", recurses := true, apart := false }
def FnExactTreeSeparatorsSaid : Prop := fnExactTreeSeparatorsRow.holds Try.pinned (OpenSpec.ofChange fnExactTreeSeparatorsSpec)

/-- ITS FALSE NEIGHBOUR: 'it returns false'. Refute it at one input. -/
def fnExactTreeSeparatorsWrong : ChangeSpec := { name := "fnExactTreeSeparators", fn := fun _ => fun
  | [d] => { results := [.lit (.bool false)], args := [d] }
  | _ => none }
def FnExactTreeSeparatorsWrongFalsely : Prop := fnExactTreeSeparatorsRow.holds Try.pinned (OpenSpec.ofChange fnExactTreeSeparatorsWrong)

/-- 'laws.FnExactModelOfOrder': WHATEVER THE INPUT: true; the input reads as it did. -/
def fnExactModelOfOrderSpec : ChangeSpec := { name := "fnExactModelOfOrder", fn := fun _ => fun
  | [d1, d2] => { results := [.lit (.bool true)], args := [d1, d2] }
  | _ => none }
def fnExactModelOfOrderRow : OpenClaim := { program := "ytcpchdnhhjhpaaa", sum := "c23111d53683595cf9d03f0e9ee63030aa4e82c753997c4715100ccaf09a6f50", func := "loop.example/g02081/laws.FnExactModelOfOrder", spec := "fnExactModelOfOrder", unfollowed := true, recurses := true, apart := false }
def FnExactModelOfOrderSaid : Prop := fnExactModelOfOrderRow.holds Try.pinned (OpenSpec.ofChange fnExactModelOfOrderSpec)

/-- ITS FALSE NEIGHBOUR: 'it returns false'. Refute it at one input. -/
def fnExactModelOfOrderWrong : ChangeSpec := { name := "fnExactModelOfOrder", fn := fun _ => fun
  | [d1, d2] => { results := [.lit (.bool false)], args := [d1, d2] }
  | _ => none }
def FnExactModelOfOrderWrongFalsely : Prop := fnExactModelOfOrderRow.holds Try.pinned (OpenSpec.ofChange fnExactModelOfOrderWrong)

/-- 'laws.FnExactHeightsOf': WHATEVER THE INPUT: true; the input reads as it did. -/
def fnExactHeightsOfSpec : ChangeSpec := { name := "fnExactHeightsOf", fn := fun _ => fun
  | [d1, d2] => { results := [.lit (.bool true)], args := [d1, d2] }
  | _ => none }
def fnExactHeightsOfRow : OpenClaim := { program := "ytcpchdnhhjhpaaa", sum := "c23111d53683595cf9d03f0e9ee63030aa4e82c753997c4715100ccaf09a6f50", func := "loop.example/g02081/laws.FnExactHeightsOf", spec := "fnExactHeightsOf", unfollowed := true, recurses := true, apart := false }
def FnExactHeightsOfSaid : Prop := fnExactHeightsOfRow.holds Try.pinned (OpenSpec.ofChange fnExactHeightsOfSpec)

/-- ITS FALSE NEIGHBOUR: 'it returns false'. Refute it at one input. -/
def fnExactHeightsOfWrong : ChangeSpec := { name := "fnExactHeightsOf", fn := fun _ => fun
  | [d1, d2] => { results := [.lit (.bool false)], args := [d1, d2] }
  | _ => none }
def FnExactHeightsOfWrongFalsely : Prop := fnExactHeightsOfRow.holds Try.pinned (OpenSpec.ofChange fnExactHeightsOfWrong)

/-- 'laws.FnExactIsSimple': WHATEVER THE INPUT: true; the input reads as it did. -/
def fnExactIsSimpleSpec : ChangeSpec := { name := "fnExactIsSimple", fn := fun _ => fun
  | [d1, d2, d3] => { results := [.lit (.bool true)], args := [d1, d2, d3] }
  | _ => none }
def fnExactIsSimpleRow : OpenClaim := { program := "ytcpchdnhhjhpaaa", sum := "c23111d53683595cf9d03f0e9ee63030aa4e82c753997c4715100ccaf09a6f50", func := "loop.example/g02081/laws.FnExactIsSimple", spec := "fnExactIsSimple", unfollowed := true, recurses := true, apart := false }
def FnExactIsSimpleSaid : Prop := fnExactIsSimpleRow.holds Try.pinned (OpenSpec.ofChange fnExactIsSimpleSpec)

/-- ITS FALSE NEIGHBOUR: 'it returns false'. Refute it at one input. -/
def fnExactIsSimpleWrong : ChangeSpec := { name := "fnExactIsSimple", fn := fun _ => fun
  | [d1, d2, d3] => { results := [.lit (.bool false)], args := [d1, d2, d3] }
  | _ => none }
def FnExactIsSimpleWrongFalsely : Prop := fnExactIsSimpleRow.holds Try.pinned (OpenSpec.ofChange fnExactIsSimpleWrong)

/- THE SECOND FORM. 'bulk': how many values and letters a reading holds, each counted each time it is reached (what is shared counts as often as it is met; a slice's spare places count too). A statement '..UptoSaid' is the law's where the arguments, and the package variables that the reading takes, are together of bulk at most 1048576: NARROWER than '..Said'. Prove '..Said' where nothing that the law and all that it calls make is longer than what came in: it says more and counts as full. Else prove '..UptoSaid'. A law counts once. -/
mutual
def uptoBulk {H : Type} : DataW H → Nat
  | .lit (.string bytes) => bytes.length + 1
  | .lit _ => 1
  | .nil => 1
  | .ptr d => uptoBulk d + 1
  | .slice elems spare => uptoBulkAll elems + uptoBulkAll spare + 1
  | .agg parts => uptoBulkAll parts + 1
  | .iface _ d => uptoBulk d + 1
  | .map entries => uptoBulkEntries entries + 1
  | .held _ => 1
def uptoBulkAll {H : Type} : List (DataW H) → Nat
  | [] => 0
  | d :: r => uptoBulk d + uptoBulkAll r
def uptoBulkEntries {H : Type} : List (Lit × DataW H) → Nat
  | [] => 0
  | x :: r => uptoBulkEntry x + uptoBulkEntries r
def uptoBulkEntry {H : Type} : Lit × DataW H → Nat
  | (.string bytes, d) => bytes.length + uptoBulk d + 1
  | (_, d) => uptoBulk d + 1
 end
def uptoSmall : (H : Type) → List (DataW H) → Bool := fun _ ds => decide (uptoBulkAll ds ≤ 1048576)
def OpenSpec.upto (s : _root_.Go.ChangeSpec) : _root_.Go.OpenSpec := { _root_.Go.OpenSpec.ofChange s with cond := some uptoSmall }

/-- 'laws.FnExactLexOrder', WHERE WHAT IT READS IS OF BULK AT MOST 1048576: true; the input reads as it did. -/
def fnExactLexOrderUptoRow : OpenClaim := { program := "ytcpchdnhhjhpaaa", sum := "c23111d53683595cf9d03f0e9ee63030aa4e82c753997c4715100ccaf09a6f50", func := "loop.example/g02081/laws.FnExactLexOrder", spec := "fnExactLexOrder", unfollowed := true, recurses := true, apart := false, narrowed := true }
def FnExactLexOrderUptoSaid : Prop := fnExactLexOrderUptoRow.holds Try.pinned (OpenSpec.upto fnExactLexOrderSpec)

/-- 'laws.FnExactCardinalityOrder', WHERE WHAT IT READS IS OF BULK AT MOST 1048576: true; the input reads as it did. -/
def fnExactCardinalityOrderUptoRow : OpenClaim := { program := "ytcpchdnhhjhpaaa", sum := "c23111d53683595cf9d03f0e9ee63030aa4e82c753997c4715100ccaf09a6f50", func := "loop.example/g02081/laws.FnExactCardinalityOrder", spec := "fnExactCardinalityOrder", unfollowed := true, recurses := true, apart := false, narrowed := true }
def FnExactCardinalityOrderUptoSaid : Prop := fnExactCardinalityOrderUptoRow.holds Try.pinned (OpenSpec.upto fnExactCardinalityOrderSpec)

/-- 'laws.FnExactIsLexElimination', WHERE WHAT IT READS IS OF BULK AT MOST 1048576: true; the input reads as it did. -/
def fnExactIsLexEliminationUptoRow : OpenClaim := { program := "ytcpchdnhhjhpaaa", sum := "c23111d53683595cf9d03f0e9ee63030aa4e82c753997c4715100ccaf09a6f50", func := "loop.example/g02081/laws.FnExactIsLexElimination", spec := "fnExactIsLexElimination", unfollowed := true, recurses := true, apart := false, narrowed := true }
def FnExactIsLexEliminationUptoSaid : Prop := fnExactIsLexEliminationUptoRow.holds Try.pinned (OpenSpec.upto fnExactIsLexEliminationSpec)

/-- 'laws.FnExactGraphOfArcs', WHERE WHAT IT READS IS OF BULK AT MOST 1048576: true; the input reads as it did. -/
def fnExactGraphOfArcsUptoRow : OpenClaim := { program := "ytcpchdnhhjhpaaa", sum := "c23111d53683595cf9d03f0e9ee63030aa4e82c753997c4715100ccaf09a6f50", func := "loop.example/g02081/laws.FnExactGraphOfArcs", spec := "fnExactGraphOfArcs", unfollowed := true, recurses := true, apart := false, narrowed := true }
def FnExactGraphOfArcsUptoSaid : Prop := fnExactGraphOfArcsUptoRow.holds Try.pinned (OpenSpec.upto fnExactGraphOfArcsSpec)

/-- 'laws.FnExactCutArcs', WHERE WHAT IT READS IS OF BULK AT MOST 1048576: true; the input reads as it did. -/
def fnExactCutArcsUptoRow : OpenClaim := { program := "ytcpchdnhhjhpaaa", sum := "c23111d53683595cf9d03f0e9ee63030aa4e82c753997c4715100ccaf09a6f50", func := "loop.example/g02081/laws.FnExactCutArcs", spec := "fnExactCutArcs", apart := false, narrowed := true }
def FnExactCutArcsUptoSaid : Prop := fnExactCutArcsUptoRow.holds Try.pinned (OpenSpec.upto fnExactCutArcsSpec)

/-- 'laws.FnExactCoversCircle', WHERE WHAT IT READS IS OF BULK AT MOST 1048576: true; the input reads as it did. -/
def fnExactCoversCircleUptoRow : OpenClaim := { program := "ytcpchdnhhjhpaaa", sum := "c23111d53683595cf9d03f0e9ee63030aa4e82c753997c4715100ccaf09a6f50", func := "loop.example/g02081/laws.FnExactCoversCircle", spec := "fnExactCoversCircle", unfollowed := true, recurses := true, apart := false, narrowed := true }
def FnExactCoversCircleUptoSaid : Prop := fnExactCoversCircleUptoRow.holds Try.pinned (OpenSpec.upto fnExactCoversCircleSpec)

/-- 'laws.FnExactGraphOfTree', WHERE WHAT IT READS IS OF BULK AT MOST 1048576: true; the input reads as it did. -/
def fnExactGraphOfTreeUptoRow : OpenClaim := { program := "ytcpchdnhhjhpaaa", sum := "c23111d53683595cf9d03f0e9ee63030aa4e82c753997c4715100ccaf09a6f50", func := "loop.example/g02081/laws.FnExactGraphOfTree", spec := "fnExactGraphOfTree", unfollowed := true, recurses := true, apart := false, narrowed := true }
def FnExactGraphOfTreeUptoSaid : Prop := fnExactGraphOfTreeUptoRow.holds Try.pinned (OpenSpec.upto fnExactGraphOfTreeSpec)

/-- 'laws.FnExactFillOf', WHERE WHAT IT READS IS OF BULK AT MOST 1048576: true; the input reads as it did. -/
def fnExactFillOfUptoRow : OpenClaim := { program := "ytcpchdnhhjhpaaa", sum := "c23111d53683595cf9d03f0e9ee63030aa4e82c753997c4715100ccaf09a6f50", func := "loop.example/g02081/laws.FnExactFillOf", spec := "fnExactFillOf", unfollowed := true, recurses := true, apart := false, narrowed := true }
def FnExactFillOfUptoSaid : Prop := fnExactFillOfUptoRow.holds Try.pinned (OpenSpec.upto fnExactFillOfSpec)

/-- 'laws.FnExactWidthOfOrder', WHERE WHAT IT READS IS OF BULK AT MOST 1048576: true; the input reads as it did. -/
def fnExactWidthOfOrderUptoRow : OpenClaim := { program := "ytcpchdnhhjhpaaa", sum := "c23111d53683595cf9d03f0e9ee63030aa4e82c753997c4715100ccaf09a6f50", func := "loop.example/g02081/laws.FnExactWidthOfOrder", spec := "fnExactWidthOfOrder", unfollowed := true, recurses := true, apart := false, narrowed := true }
def FnExactWidthOfOrderUptoSaid : Prop := fnExactWidthOfOrderUptoRow.holds Try.pinned (OpenSpec.upto fnExactWidthOfOrderSpec)

/-- 'laws.FnExactTreeSeparators', WHERE WHAT IT READS IS OF BULK AT MOST 1048576: true; the input reads as it did. -/
def fnExactTreeSeparatorsUptoRow : OpenClaim := { program := "ytcpchdnhhjhpaaa", sum := "c23111d53683595cf9d03f0e9ee63030aa4e82c753997c4715100ccaf09a6f50", func := "loop.example/g02081/laws.FnExactTreeSeparators", spec := "fnExactTreeSeparators", recurses := true, apart := false, narrowed := true }
def FnExactTreeSeparatorsUptoSaid : Prop := fnExactTreeSeparatorsUptoRow.holds Try.pinned (OpenSpec.upto fnExactTreeSeparatorsSpec)

/-- 'laws.FnExactModelOfOrder', WHERE WHAT IT READS IS OF BULK AT MOST 1048576: true; the input reads as it did. -/
def fnExactModelOfOrderUptoRow : OpenClaim := { program := "ytcpchdnhhjhpaaa", sum := "c23111d53683595cf9d03f0e9ee63030aa4e82c753997c4715100ccaf09a6f50", func := "loop.example/g02081/laws.FnExactModelOfOrder", spec := "fnExactModelOfOrder", unfollowed := true, recurses := true, apart := false, narrowed := true }
def FnExactModelOfOrderUptoSaid : Prop := fnExactModelOfOrderUptoRow.holds Try.pinned (OpenSpec.upto fnExactModelOfOrderSpec)

/-- 'laws.FnExactHeightsOf', WHERE WHAT IT READS IS OF BULK AT MOST 1048576: true; the input reads as it did. -/
def fnExactHeightsOfUptoRow : OpenClaim := { program := "ytcpchdnhhjhpaaa", sum := "c23111d53683595cf9d03f0e9ee63030aa4e82c753997c4715100ccaf09a6f50", func := "loop.example/g02081/laws.FnExactHeightsOf", spec := "fnExactHeightsOf", unfollowed := true, recurses := true, apart := false, narrowed := true }
def FnExactHeightsOfUptoSaid : Prop := fnExactHeightsOfUptoRow.holds Try.pinned (OpenSpec.upto fnExactHeightsOfSpec)

/-- 'laws.FnExactIsSimple', WHERE WHAT IT READS IS OF BULK AT MOST 1048576: true; the input reads as it did. -/
def fnExactIsSimpleUptoRow : OpenClaim := { program := "ytcpchdnhhjhpaaa", sum := "c23111d53683595cf9d03f0e9ee63030aa4e82c753997c4715100ccaf09a6f50", func := "loop.example/g02081/laws.FnExactIsSimple", spec := "fnExactIsSimple", unfollowed := true, recurses := true, apart := false, narrowed := true }
def FnExactIsSimpleUptoSaid : Prop := fnExactIsSimpleUptoRow.holds Try.pinned (OpenSpec.upto fnExactIsSimpleSpec)

end Rows
end Go.Proofs.Ytcpchdnhhjhpaaa
