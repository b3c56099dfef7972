/-
  No cell of these rows narrows 'for every input' (looked for: loops, veiled, ifaces, maps, wideKeys, modest, calm, conditions, laid).
  DERIVED. THE GIVEN ROWS OF THIS SEAT. 11 by the template 'for every input the law returns true; each argument reads behind the call as it read before'; 0 by the template 'total and deterministic' (their statements: YtbmpljclplddeabTotals.lean).
  GIVEN WITH THE SEED: the statements are not yours to turn. If you find one false, say at which input.
  Laid BY PROGRAM, IN A SANDBOX (cutbox-rows.mjs): the forced cells as the released guide's own fill.sh prints them over the translation 4c5ac3e9a0dafc84… (all of the seat's roots in one cut). By AI agents, Wed Nov 11 2026. No macro, syntax, notation, axiom, sorry.
-/
import Derived.Test.YtbmpljclplddeabChecked
import GoSem.Claim
import GoSem.ClaimJoined
import GoSem.ClaimMapViews
import Derived.JoinedTies
import Derived.KernelRfl
namespace Go.Proofs.Ytbmpljclplddeab
/- THE CELL 'sum', in the pinned program and in every row, IS THE sha256 OF THE DUMP (.gsa) THAT YtbmpljclplddeabProg.lean LOADS. Nothing in Lean hashes anything: it is a label: what it is worth is what the hold of that sum in a sandbox is worth. -/
noncomputable def Try.pinned : Pinned := { name := "ytbmpljclplddeab", sum := "4c5ac3e9a0dafc84740168c4293724f03e3e1e40460149eb29384aeb037116ea", checked := Try.checked }
namespace Rows
def none {H : Type} : Left H := { results := [], args := [] }

/-- 'laws.FnExactDeepestPoint': WHATEVER THE INPUT: true; the input reads as it did. -/
def fnExactDeepestPointSpec : ChangeSpec := { name := "fnExactDeepestPoint", fn := fun _ => fun
  | [d] => { results := [.lit (.bool true)], args := [d] }
  | _ => none }
def fnExactDeepestPointRow : OpenClaim := { program := "ytbmpljclplddeab", sum := "4c5ac3e9a0dafc84740168c4293724f03e3e1e40460149eb29384aeb037116ea", func := "loop.example/g02081/laws.FnExactDeepestPoint", spec := "fnExactDeepestPoint", apart := false }
def FnExactDeepestPointSaid : Prop := fnExactDeepestPointRow.holds Try.pinned (OpenSpec.ofChange fnExactDeepestPointSpec)

/-- ITS FALSE NEIGHBOUR: 'it returns false'. Refute it at one input. -/
def fnExactDeepestPointWrong : ChangeSpec := { name := "fnExactDeepestPoint", fn := fun _ => fun
  | [d] => { results := [.lit (.bool false)], args := [d] }
  | _ => none }
def FnExactDeepestPointWrongFalsely : Prop := fnExactDeepestPointRow.holds Try.pinned (OpenSpec.ofChange fnExactDeepestPointWrong)

/-- 'laws.FnExactGraphOfIntervals': WHATEVER THE INPUT: true; the input reads as it did. -/
def fnExactGraphOfIntervalsSpec : ChangeSpec := { name := "fnExactGraphOfIntervals", fn := fun _ => fun
  | [d] => { results := [.lit (.bool true)], args := [d] }
  | _ => none }
def fnExactGraphOfIntervalsRow : OpenClaim := { program := "ytbmpljclplddeab", sum := "4c5ac3e9a0dafc84740168c4293724f03e3e1e40460149eb29384aeb037116ea", func := "loop.example/g02081/laws.FnExactGraphOfIntervals", spec := "fnExactGraphOfIntervals", unfollowed := true, recurses := true, apart := false }
def FnExactGraphOfIntervalsSaid : Prop := fnExactGraphOfIntervalsRow.holds Try.pinned (OpenSpec.ofChange fnExactGraphOfIntervalsSpec)

/-- ITS FALSE NEIGHBOUR: 'it returns false'. Refute it at one input. -/
def fnExactGraphOfIntervalsWrong : ChangeSpec := { name := "fnExactGraphOfIntervals", fn := fun _ => fun
  | [d] => { results := [.lit (.bool false)], args := [d] }
  | _ => none }
def FnExactGraphOfIntervalsWrongFalsely : Prop := fnExactGraphOfIntervalsRow.holds Try.pinned (OpenSpec.ofChange fnExactGraphOfIntervalsWrong)

/-- 'laws.FnExactIsModelOf': WHATEVER THE INPUT: true; the input reads as it did. -/
def fnExactIsModelOfSpec : ChangeSpec := { name := "fnExactIsModelOf", fn := fun _ => fun
  | [d1, d2] => { results := [.lit (.bool true)], args := [d1, d2] }
  | _ => none }
def fnExactIsModelOfRow : OpenClaim := { program := "ytbmpljclplddeab", sum := "4c5ac3e9a0dafc84740168c4293724f03e3e1e40460149eb29384aeb037116ea", func := "loop.example/g02081/laws.FnExactIsModelOf", spec := "fnExactIsModelOf", unfollowed := true, recurses := true, apart := false }
def FnExactIsModelOfSaid : Prop := fnExactIsModelOfRow.holds Try.pinned (OpenSpec.ofChange fnExactIsModelOfSpec)

/-- ITS FALSE NEIGHBOUR: 'it returns false'. Refute it at one input. -/
def fnExactIsModelOfWrong : ChangeSpec := { name := "fnExactIsModelOf", fn := fun _ => fun
  | [d1, d2] => { results := [.lit (.bool false)], args := [d1, d2] }
  | _ => none }
def FnExactIsModelOfWrongFalsely : Prop := fnExactIsModelOfRow.holds Try.pinned (OpenSpec.ofChange fnExactIsModelOfWrong)

/-- 'laws.FnExactIsTransitive': WHATEVER THE INPUT: true; the input reads as it did. -/
def fnExactIsTransitiveSpec : ChangeSpec := { name := "fnExactIsTransitive", fn := fun _ => fun
  | [d1, d2] => { results := [.lit (.bool true)], args := [d1, d2] }
  | _ => none }
def fnExactIsTransitiveRow : OpenClaim := { program := "ytbmpljclplddeab", sum := "4c5ac3e9a0dafc84740168c4293724f03e3e1e40460149eb29384aeb037116ea", func := "loop.example/g02081/laws.FnExactIsTransitive", spec := "fnExactIsTransitive", unfollowed := true, recurses := true, apart := false }
def FnExactIsTransitiveSaid : Prop := fnExactIsTransitiveRow.holds Try.pinned (OpenSpec.ofChange fnExactIsTransitiveSpec)

/-- ITS FALSE NEIGHBOUR: 'it returns false'. Refute it at one input. -/
def fnExactIsTransitiveWrong : ChangeSpec := { name := "fnExactIsTransitive", fn := fun _ => fun
  | [d1, d2] => { results := [.lit (.bool false)], args := [d1, d2] }
  | _ => none }
def FnExactIsTransitiveWrongFalsely : Prop := fnExactIsTransitiveRow.holds Try.pinned (OpenSpec.ofChange fnExactIsTransitiveWrong)

/-- 'laws.FnExactThresholdObstacle': WHATEVER THE INPUT: true; the input reads as it did. -/
def fnExactThresholdObstacleSpec : ChangeSpec := { name := "fnExactThresholdObstacle", fn := fun _ => fun
  | [d] => { results := [.lit (.bool true)], args := [d] }
  | _ => none }
def fnExactThresholdObstacleRow : OpenClaim := { program := "ytbmpljclplddeab", sum := "4c5ac3e9a0dafc84740168c4293724f03e3e1e40460149eb29384aeb037116ea", func := "loop.example/g02081/laws.FnExactThresholdObstacle", spec := "fnExactThresholdObstacle", unfollowed := true, recurses := true, apart := false }
def FnExactThresholdObstacleSaid : Prop := fnExactThresholdObstacleRow.holds Try.pinned (OpenSpec.ofChange fnExactThresholdObstacleSpec)

/-- ITS FALSE NEIGHBOUR: 'it returns false'. Refute it at one input. -/
def fnExactThresholdObstacleWrong : ChangeSpec := { name := "fnExactThresholdObstacle", fn := fun _ => fun
  | [d] => { results := [.lit (.bool false)], args := [d] }
  | _ => none }
def FnExactThresholdObstacleWrongFalsely : Prop := fnExactThresholdObstacleRow.holds Try.pinned (OpenSpec.ofChange fnExactThresholdObstacleWrong)

/-- 'laws.FnExactFindOddCycle': WHATEVER THE INPUT: true; the input reads as it did. -/
def fnExactFindOddCycleSpec : ChangeSpec := { name := "fnExactFindOddCycle", fn := fun _ => fun
  | [d] => { results := [.lit (.bool true)], args := [d] }
  | _ => none }
def fnExactFindOddCycleRow : OpenClaim := { program := "ytbmpljclplddeab", sum := "4c5ac3e9a0dafc84740168c4293724f03e3e1e40460149eb29384aeb037116ea", func := "loop.example/g02081/laws.FnExactFindOddCycle", spec := "fnExactFindOddCycle", unfollowed := true, recurses := true, apart := false }
def FnExactFindOddCycleSaid : Prop := fnExactFindOddCycleRow.holds Try.pinned (OpenSpec.ofChange fnExactFindOddCycleSpec)

/-- ITS FALSE NEIGHBOUR: 'it returns false'. Refute it at one input. -/
def fnExactFindOddCycleWrong : ChangeSpec := { name := "fnExactFindOddCycle", fn := fun _ => fun
  | [d] => { results := [.lit (.bool false)], args := [d] }
  | _ => none }
def FnExactFindOddCycleWrongFalsely : Prop := fnExactFindOddCycleRow.holds Try.pinned (OpenSpec.ofChange fnExactFindOddCycleWrong)

/-- 'laws.FnExactIsPermutationModel': WHATEVER THE INPUT: true; the input reads as it did. -/
def fnExactIsPermutationModelSpec : ChangeSpec := { name := "fnExactIsPermutationModel", fn := fun _ => fun
  | [d1, d2, d3] => { results := [.lit (.bool true)], args := [d1, d2, d3] }
  | _ => none }
def fnExactIsPermutationModelRow : OpenClaim := { program := "ytbmpljclplddeab", sum := "4c5ac3e9a0dafc84740168c4293724f03e3e1e40460149eb29384aeb037116ea", func := "loop.example/g02081/laws.FnExactIsPermutationModel", spec := "fnExactIsPermutationModel", apart := false }
def FnExactIsPermutationModelSaid : Prop := fnExactIsPermutationModelRow.holds Try.pinned (OpenSpec.ofChange fnExactIsPermutationModelSpec)

/-- ITS FALSE NEIGHBOUR: 'it returns false'. Refute it at one input. -/
def fnExactIsPermutationModelWrong : ChangeSpec := { name := "fnExactIsPermutationModel", fn := fun _ => fun
  | [d1, d2, d3] => { results := [.lit (.bool false)], args := [d1, d2, d3] }
  | _ => none }
def FnExactIsPermutationModelWrongFalsely : Prop := fnExactIsPermutationModelRow.holds Try.pinned (OpenSpec.ofChange fnExactIsPermutationModelWrong)

/-- 'laws.FnExactIsSimple': WHATEVER THE INPUT: true; the input reads as it did. -/
def fnExactIsSimpleSpec : ChangeSpec := { name := "fnExactIsSimple", fn := fun _ => fun
  | [d1, d2, d3] => { results := [.lit (.bool true)], args := [d1, d2, d3] }
  | _ => none }
def fnExactIsSimpleRow : OpenClaim := { program := "ytbmpljclplddeab", sum := "4c5ac3e9a0dafc84740168c4293724f03e3e1e40460149eb29384aeb037116ea", func := "loop.example/g02081/laws.FnExactIsSimple", spec := "fnExactIsSimple", unfollowed := true, recurses := true, apart := false }
def FnExactIsSimpleSaid : Prop := fnExactIsSimpleRow.holds Try.pinned (OpenSpec.ofChange fnExactIsSimpleSpec)

/-- ITS FALSE NEIGHBOUR: 'it returns false'. Refute it at one input. -/
def fnExactIsSimpleWrong : ChangeSpec := { name := "fnExactIsSimple", fn := fun _ => fun
  | [d1, d2, d3] => { results := [.lit (.bool false)], args := [d1, d2, d3] }
  | _ => none }
def FnExactIsSimpleWrongFalsely : Prop := fnExactIsSimpleRow.holds Try.pinned (OpenSpec.ofChange fnExactIsSimpleWrong)

/-- 'laws.FnExactStrongModules': WHATEVER THE INPUT: true; the input reads as it did. -/
def fnExactStrongModulesSpec : ChangeSpec := { name := "fnExactStrongModules", fn := fun _ => fun
  | [d] => { results := [.lit (.bool true)], args := [d] }
  | _ => none }
def fnExactStrongModulesRow : OpenClaim := { program := "ytbmpljclplddeab", sum := "4c5ac3e9a0dafc84740168c4293724f03e3e1e40460149eb29384aeb037116ea", func := "loop.example/g02081/laws.FnExactStrongModules", spec := "fnExactStrongModules", unfollowed := true, recurses := true, apart := false }
def FnExactStrongModulesSaid : Prop := fnExactStrongModulesRow.holds Try.pinned (OpenSpec.ofChange fnExactStrongModulesSpec)

/-- ITS FALSE NEIGHBOUR: 'it returns false'. Refute it at one input. -/
def fnExactStrongModulesWrong : ChangeSpec := { name := "fnExactStrongModules", fn := fun _ => fun
  | [d] => { results := [.lit (.bool false)], args := [d] }
  | _ => none }
def FnExactStrongModulesWrongFalsely : Prop := fnExactStrongModulesRow.holds Try.pinned (OpenSpec.ofChange fnExactStrongModulesWrong)

/-- 'laws.FnExactLeastModule': WHATEVER THE INPUT: true; the input reads as it did. -/
def fnExactLeastModuleSpec : ChangeSpec := { name := "fnExactLeastModule", fn := fun _ => fun
  | [d1, d2] => { results := [.lit (.bool true)], args := [d1, d2] }
  | _ => none }
def fnExactLeastModuleRow : OpenClaim := { program := "ytbmpljclplddeab", sum := "4c5ac3e9a0dafc84740168c4293724f03e3e1e40460149eb29384aeb037116ea", func := "loop.example/g02081/laws.FnExactLeastModule", spec := "fnExactLeastModule", unfollowed := true, recurses := true, apart := false }
def FnExactLeastModuleSaid : Prop := fnExactLeastModuleRow.holds Try.pinned (OpenSpec.ofChange fnExactLeastModuleSpec)

/-- ITS FALSE NEIGHBOUR: 'it returns false'. Refute it at one input. -/
def fnExactLeastModuleWrong : ChangeSpec := { name := "fnExactLeastModule", fn := fun _ => fun
  | [d1, d2] => { results := [.lit (.bool false)], args := [d1, d2] }
  | _ => none }
def FnExactLeastModuleWrongFalsely : Prop := fnExactLeastModuleRow.holds Try.pinned (OpenSpec.ofChange fnExactLeastModuleWrong)

/-- 'laws.FnExactFreePoint': WHATEVER THE INPUT: true; the input reads as it did. -/
def fnExactFreePointSpec : ChangeSpec := { name := "fnExactFreePoint", fn := fun _ => fun
  | [d] => { results := [.lit (.bool true)], args := [d] }
  | _ => none }
def fnExactFreePointRow : OpenClaim := { program := "ytbmpljclplddeab", sum := "4c5ac3e9a0dafc84740168c4293724f03e3e1e40460149eb29384aeb037116ea", func := "loop.example/g02081/laws.FnExactFreePoint", spec := "fnExactFreePoint", apart := false }
def FnExactFreePointSaid : Prop := fnExactFreePointRow.holds Try.pinned (OpenSpec.ofChange fnExactFreePointSpec)

/-- ITS FALSE NEIGHBOUR: 'it returns false'. Refute it at one input. -/
def fnExactFreePointWrong : ChangeSpec := { name := "fnExactFreePoint", fn := fun _ => fun
  | [d] => { results := [.lit (.bool false)], args := [d] }
  | _ => none }
def FnExactFreePointWrongFalsely : Prop := fnExactFreePointRow.holds Try.pinned (OpenSpec.ofChange fnExactFreePointWrong)

/- THE SECOND FORM. 'bulk': how many values and letters a reading holds, each counted each time it is reached (what is shared counts as often as it is met; a slice's spare places count too). A statement '..UptoSaid' is the law's where the arguments, and the package variables that the reading takes, are together of bulk at most 1048576: NARROWER than '..Said'. Prove '..Said' where nothing that the law and all that it calls make is longer than what came in: it says more and counts as full. Else prove '..UptoSaid'. A law counts once. -/
mutual
def uptoBulk {H : Type} : DataW H → Nat
  | .lit (.string bytes) => bytes.length + 1
  | .lit _ => 1
  | .nil => 1
  | .ptr d => uptoBulk d + 1
  | .slice elems spare => uptoBulkAll elems + uptoBulkAll spare + 1
  | .agg parts => uptoBulkAll parts + 1
  | .iface _ d => uptoBulk d + 1
  | .map entries => uptoBulkEntries entries + 1
  | .held _ => 1
def uptoBulkAll {H : Type} : List (DataW H) → Nat
  | [] => 0
  | d :: r => uptoBulk d + uptoBulkAll r
def uptoBulkEntries {H : Type} : List (Lit × DataW H) → Nat
  | [] => 0
  | x :: r => uptoBulkEntry x + uptoBulkEntries r
def uptoBulkEntry {H : Type} : Lit × DataW H → Nat
  | (.string bytes, d) => bytes.length + uptoBulk d + 1
  | (_, d) => uptoBulk d + 1
 end
def uptoSmall : (H : Type) → List (DataW H) → Bool := fun _ ds => decide (uptoBulkAll ds ≤ 1048576)
def OpenSpec.upto (s : _root_.Go.ChangeSpec) : _root_.Go.OpenSpec := { _root_.Go.OpenSpec.ofChange s with cond := some uptoSmall }

/-- 'laws.FnExactDeepestPoint', WHERE WHAT IT READS IS OF BULK AT MOST 1048576: true; the input reads as it did. -/
def fnExactDeepestPointUptoRow : OpenClaim := { program := "ytbmpljclplddeab", sum := "4c5ac3e9a0dafc84740168c4293724f03e3e1e40460149eb29384aeb037116ea", func := "loop.example/g02081/laws.FnExactDeepestPoint", spec := "fnExactDeepestPoint", apart := false, narrowed := true }
def FnExactDeepestPointUptoSaid : Prop := fnExactDeepestPointUptoRow.holds Try.pinned (OpenSpec.upto fnExactDeepestPointSpec)

/-- 'laws.FnExactGraphOfIntervals', WHERE WHAT IT READS IS OF BULK AT MOST 1048576: true; the input reads as it did. -/
def fnExactGraphOfIntervalsUptoRow : OpenClaim := { program := "ytbmpljclplddeab", sum := "4c5ac3e9a0dafc84740168c4293724f03e3e1e40460149eb29384aeb037116ea", func := "loop.example/g02081/laws.FnExactGraphOfIntervals", spec := "fnExactGraphOfIntervals", unfollowed := true, recurses := true, apart := false, narrowed := true }
def FnExactGraphOfIntervalsUptoSaid : Prop := fnExactGraphOfIntervalsUptoRow.holds Try.pinned (OpenSpec.upto fnExactGraphOfIntervalsSpec)

/-- 'laws.FnExactIsModelOf', WHERE WHAT IT READS IS OF BULK AT MOST 1048576: true; the input reads as it did. -/
def fnExactIsModelOfUptoRow : OpenClaim := { program := "ytbmpljclplddeab", sum := "4c5ac3e9a0dafc84740168c4293724f03e3e1e40460149eb29384aeb037116ea", func := "loop.example/g02081/laws.FnExactIsModelOf", spec := "fnExactIsModelOf", unfollowed := true, recurses := true, apart := false, narrowed := true }
def FnExactIsModelOfUptoSaid : Prop := fnExactIsModelOfUptoRow.holds Try.pinned (OpenSpec.upto fnExactIsModelOfSpec)

/-- 'laws.FnExactIsTransitive', WHERE WHAT IT READS IS OF BULK AT MOST 1048576: true; the input reads as it did. -/
def fnExactIsTransitiveUptoRow : OpenClaim := { program := "ytbmpljclplddeab", sum := "4c5ac3e9a0dafc84740168c4293724f03e3e1e40460149eb29384aeb037116ea", func := "loop.example/g02081/laws.FnExactIsTransitive", spec := "fnExactIsTransitive", unfollowed := true, recurses := true, apart := false, narrowed := true }
def FnExactIsTransitiveUptoSaid : Prop := fnExactIsTransitiveUptoRow.holds Try.pinned (OpenSpec.upto fnExactIsTransitiveSpec)

/-- 'laws.FnExactThresholdObstacle', WHERE WHAT IT READS IS OF BULK AT MOST 1048576: true; the input reads as it did. -/
def fnExactThresholdObstacleUptoRow : OpenClaim := { program := "ytbmpljclplddeab", sum := "4c5ac3e9a0dafc84740168c4293724f03e3e1e40460149eb29384aeb037116ea", func := "loop.example/g02081/laws.FnExactThresholdObstacle", spec := "fnExactThresholdObstacle", unfollowed := true, recurses := true, apart := false, narrowed := true }
def FnExactThresholdObstacleUptoSaid : Prop := fnExactThresholdObstacleUptoRow.holds Try.pinned (OpenSpec.upto fnExactThresholdObstacleSpec)

/-- 'laws.FnExactFindOddCycle', WHERE WHAT IT READS IS OF BULK AT MOST 1048576: true; the input reads as it did. -/
def fnExactFindOddCycleUptoRow : OpenClaim := { program := "ytbmpljclplddeab", sum := "4c5ac3e9a0dafc84740168c4293724f03e3e1e40460149eb29384aeb037116ea", func := "loop.example/g02081/laws.FnExactFindOddCycle", spec := "fnExactFindOddCycle", unfollowed := true, recurses := true, apart := false, narrowed := true }
def FnExactFindOddCycleUptoSaid : Prop := fnExactFindOddCycleUptoRow.holds Try.pinned (OpenSpec.upto fnExactFindOddCycleSpec)

/-- 'laws.FnExactIsPermutationModel', WHERE WHAT IT READS IS OF BULK AT MOST 1048576: true; the input reads as it did. -/
def fnExactIsPermutationModelUptoRow : OpenClaim := { program := "ytbmpljclplddeab", sum := "4c5ac3e9a0dafc84740168c4293724f03e3e1e40460149eb29384aeb037116ea", func := "loop.example/g02081/laws.FnExactIsPermutationModel", spec := "fnExactIsPermutationModel", apart := false, narrowed := true }
def FnExactIsPermutationModelUptoSaid : Prop := fnExactIsPermutationModelUptoRow.holds Try.pinned (OpenSpec.upto fnExactIsPermutationModelSpec)

/-- 'laws.FnExactIsSimple', WHERE WHAT IT READS IS OF BULK AT MOST 1048576: true; the input reads as it did. -/
def fnExactIsSimpleUptoRow : OpenClaim := { program := "ytbmpljclplddeab", sum := "4c5ac3e9a0dafc84740168c4293724f03e3e1e40460149eb29384aeb037116ea", func := "loop.example/g02081/laws.FnExactIsSimple", spec := "fnExactIsSimple", unfollowed := true, recurses := true, apart := false, narrowed := true }
def FnExactIsSimpleUptoSaid : Prop := fnExactIsSimpleUptoRow.holds Try.pinned (OpenSpec.upto fnExactIsSimpleSpec)

/-- 'laws.FnExactStrongModules', WHERE WHAT IT READS IS OF BULK AT MOST 1048576: true; the input reads as it did. -/
def fnExactStrongModulesUptoRow : OpenClaim := { program := "ytbmpljclplddeab", sum := "4c5ac3e9a0dafc84740168c4293724f03e3e1e40460149eb29384aeb037116ea", func := "loop.example/g02081/laws.FnExactStrongModules", spec := "fnExactStrongModules", unfollowed := true, recurses := true, apart := false, narrowed := true }
def FnExactStrongModulesUptoSaid : Prop := fnExactStrongModulesUptoRow.holds Try.pinned (OpenSpec.upto fnExactStrongModulesSpec)

/-- 'laws.FnExactLeastModule', WHERE WHAT IT READS IS OF BULK AT MOST 1048576: true; the input reads as it did. -/
def fnExactLeastModuleUptoRow : OpenClaim := { program := "ytbmpljclplddeab", sum := "4c5ac3e9a0dafc84740168c4293724f03e3e1e40460149eb29384aeb037116ea", func := "loop.example/g02081/laws.FnExactLeastModule", spec := "fnExactLeastModule", unfollowed := true, recurses := true, apart := false, narrowed := true }
def FnExactLeastModuleUptoSaid : Prop := fnExactLeastModuleUptoRow.holds Try.pinned (OpenSpec.upto fnExactLeastModuleSpec)

/-- 'laws.FnExactFreePoint', WHERE WHAT IT READS IS OF BULK AT MOST 1048576: true; the input reads as it did. -/
def fnExactFreePointUptoRow : OpenClaim := { program := "ytbmpljclplddeab", sum := "4c5ac3e9a0dafc84740168c4293724f03e3e1e40460149eb29384aeb037116ea", func := "loop.example/g02081/laws.FnExactFreePoint", spec := "fnExactFreePoint", apart := false, narrowed := true }
def FnExactFreePointUptoSaid : Prop := fnExactFreePointUptoRow.holds Try.pinned (OpenSpec.upto fnExactFreePointSpec)

end Rows
end Go.Proofs.Ytbmpljclplddeab
