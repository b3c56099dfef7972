/-
  No cell of these rows narrows 'for every input' (looked for: loops, veiled, ifaces, maps, wideKeys, modest, calm, conditions, laid).
  DERIVED. THE GIVEN ROWS OF THIS SEAT. 11 by the template 'for every input the law returns true; each argument reads behind the call as it read before'; 0 by the template 'total and deterministic' (their statements: YtbgkceekkinngacTotals.lean).
  GIVEN WITH THE SEED: the statements are not yours to turn. If you find one false, say at which input.
  Laid BY PROGRAM, IN A SANDBOX (cutbox-rows.mjs): the forced cells as the released guide's own fill.sh prints them over the translation 56fe1bd655d93647… (all of the seat's roots in one cut). By AI agents, Wed Nov 11 2026. No macro, syntax, notation, axiom, sorry.
-/
import Derived.Test.YtbgkceekkinngacChecked
import GoSem.Claim
import GoSem.ClaimJoined
import GoSem.ClaimMapViews
import Derived.JoinedTies
import Derived.KernelRfl
namespace Go.Proofs.Ytbgkceekkinngac
/- THE CELL 'sum', in the pinned program and in every row, IS THE sha256 OF THE DUMP (.gsa) THAT YtbgkceekkinngacProg.lean LOADS. Nothing in Lean hashes anything: it is a label: what it is worth is what the hold of that sum in a sandbox is worth. -/
noncomputable def Try.pinned : Pinned := { name := "ytbgkceekkinngac", sum := "56fe1bd655d93647ec887f992b7932ebb89758c884dbee17a57c68f0e43f5ff5", checked := Try.checked }
namespace Rows
def none {H : Type} : Left H := { results := [], args := [] }

/-- 'laws.FnExactKeepsDistances': WHATEVER THE INPUT: true; the input reads as it did. -/
def fnExactKeepsDistancesSpec : ChangeSpec := { name := "fnExactKeepsDistances", fn := fun _ => fun
  | [d1, d2] => { results := [.lit (.bool true)], args := [d1, d2] }
  | _ => none }
def fnExactKeepsDistancesRow : OpenClaim := { program := "ytbgkceekkinngac", sum := "56fe1bd655d93647ec887f992b7932ebb89758c884dbee17a57c68f0e43f5ff5", func := "loop.example/g02081/laws.FnExactKeepsDistances", spec := "fnExactKeepsDistances", unfollowed := true, recurses := true, apart := false }
def FnExactKeepsDistancesSaid : Prop := fnExactKeepsDistancesRow.holds Try.pinned (OpenSpec.ofChange fnExactKeepsDistancesSpec)

/-- ITS FALSE NEIGHBOUR: 'it returns false'. Refute it at one input. -/
def fnExactKeepsDistancesWrong : ChangeSpec := { name := "fnExactKeepsDistances", fn := fun _ => fun
  | [d1, d2] => { results := [.lit (.bool false)], args := [d1, d2] }
  | _ => none }
def FnExactKeepsDistancesWrongFalsely : Prop := fnExactKeepsDistancesRow.holds Try.pinned (OpenSpec.ofChange fnExactKeepsDistancesWrong)

/-- 'laws.FnExactCutOf': WHATEVER THE INPUT: true; the input reads as it did. -/
def fnExactCutOfSpec : ChangeSpec := { name := "fnExactCutOf", fn := fun _ => fun
  | [d1, d2] => { results := [.lit (.bool true)], args := [d1, d2] }
  | _ => none }
def fnExactCutOfRow : OpenClaim := { program := "ytbgkceekkinngac", sum := "56fe1bd655d93647ec887f992b7932ebb89758c884dbee17a57c68f0e43f5ff5", func := "loop.example/g02081/laws.FnExactCutOf", spec := "fnExactCutOf", unfollowed := true, recurses := true, apart := false }
def FnExactCutOfSaid : Prop := fnExactCutOfRow.holds Try.pinned (OpenSpec.ofChange fnExactCutOfSpec)

/-- ITS FALSE NEIGHBOUR: 'it returns false'. Refute it at one input. -/
def fnExactCutOfWrong : ChangeSpec := { name := "fnExactCutOf", fn := fun _ => fun
  | [d1, d2] => { results := [.lit (.bool false)], args := [d1, d2] }
  | _ => none }
def FnExactCutOfWrongFalsely : Prop := fnExactCutOfRow.holds Try.pinned (OpenSpec.ofChange fnExactCutOfWrong)

/-- 'laws.FnExactIsSandwich': WHATEVER THE INPUT: true; the input reads as it did. -/
def fnExactIsSandwichSpec : ChangeSpec := { name := "fnExactIsSandwich", fn := fun _ => fun
  | [d1, d2, d3] => { results := [.lit (.bool true)], args := [d1, d2, d3] }
  | _ => none }
def fnExactIsSandwichRow : OpenClaim := { program := "ytbgkceekkinngac", sum := "56fe1bd655d93647ec887f992b7932ebb89758c884dbee17a57c68f0e43f5ff5", func := "loop.example/g02081/laws.FnExactIsSandwich", spec := "fnExactIsSandwich", apart := false }
def FnExactIsSandwichSaid : Prop := fnExactIsSandwichRow.holds Try.pinned (OpenSpec.ofChange fnExactIsSandwichSpec)

/-- ITS FALSE NEIGHBOUR: 'it returns false'. Refute it at one input. -/
def fnExactIsSandwichWrong : ChangeSpec := { name := "fnExactIsSandwich", fn := fun _ => fun
  | [d1, d2, d3] => { results := [.lit (.bool false)], args := [d1, d2, d3] }
  | _ => none }
def FnExactIsSandwichWrongFalsely : Prop := fnExactIsSandwichRow.holds Try.pinned (OpenSpec.ofChange fnExactIsSandwichWrong)

/-- 'laws.FnExactIsTree': WHATEVER THE INPUT: true; the input reads as it did. -/
def fnExactIsTreeSpec : ChangeSpec := { name := "fnExactIsTree", fn := fun _ => fun
  | [d] => { results := [.lit (.bool true)], args := [d] }
  | _ => none }
def fnExactIsTreeRow : OpenClaim := { program := "ytbgkceekkinngac", sum := "56fe1bd655d93647ec887f992b7932ebb89758c884dbee17a57c68f0e43f5ff5", func := "loop.example/g02081/laws.FnExactIsTree", spec := "fnExactIsTree", apart := false }
def FnExactIsTreeSaid : Prop := fnExactIsTreeRow.holds Try.pinned (OpenSpec.ofChange fnExactIsTreeSpec)

/-- ITS FALSE NEIGHBOUR: 'it returns false'. Refute it at one input. -/
def fnExactIsTreeWrong : ChangeSpec := { name := "fnExactIsTree", fn := fun _ => fun
  | [d] => { results := [.lit (.bool false)], args := [d] }
  | _ => none }
def FnExactIsTreeWrongFalsely : Prop := fnExactIsTreeRow.holds Try.pinned (OpenSpec.ofChange fnExactIsTreeWrong)

/-- 'laws.FnExactStrongModules': WHATEVER THE INPUT: true; the input reads as it did. -/
def fnExactStrongModulesSpec : ChangeSpec := { name := "fnExactStrongModules", fn := fun _ => fun
  | [d] => { results := [.lit (.bool true)], args := [d] }
  | _ => none }
def fnExactStrongModulesRow : OpenClaim := { program := "ytbgkceekkinngac", sum := "56fe1bd655d93647ec887f992b7932ebb89758c884dbee17a57c68f0e43f5ff5", func := "loop.example/g02081/laws.FnExactStrongModules", spec := "fnExactStrongModules", unfollowed := true, recurses := true, apart := false }
def FnExactStrongModulesSaid : Prop := fnExactStrongModulesRow.holds Try.pinned (OpenSpec.ofChange fnExactStrongModulesSpec)

/-- ITS FALSE NEIGHBOUR: 'it returns false'. Refute it at one input. -/
def fnExactStrongModulesWrong : ChangeSpec := { name := "fnExactStrongModules", fn := fun _ => fun
  | [d] => { results := [.lit (.bool false)], args := [d] }
  | _ => none }
def FnExactStrongModulesWrongFalsely : Prop := fnExactStrongModulesRow.holds Try.pinned (OpenSpec.ofChange fnExactStrongModulesWrong)

/-- 'laws.FnExactIsOrientation': WHATEVER THE INPUT: true; the input reads as it did. -/
def fnExactIsOrientationSpec : ChangeSpec := { name := "fnExactIsOrientation", fn := fun _ => fun
  | [d1, d2] => { results := [.lit (.bool true)], args := [d1, d2] }
  | _ => none }
def fnExactIsOrientationRow : OpenClaim := { program := "ytbgkceekkinngac", sum := "56fe1bd655d93647ec887f992b7932ebb89758c884dbee17a57c68f0e43f5ff5", func := "loop.example/g02081/laws.FnExactIsOrientation", spec := "fnExactIsOrientation", apart := false }
def FnExactIsOrientationSaid : Prop := fnExactIsOrientationRow.holds Try.pinned (OpenSpec.ofChange fnExactIsOrientationSpec)

/-- ITS FALSE NEIGHBOUR: 'it returns false'. Refute it at one input. -/
def fnExactIsOrientationWrong : ChangeSpec := { name := "fnExactIsOrientation", fn := fun _ => fun
  | [d1, d2] => { results := [.lit (.bool false)], args := [d1, d2] }
  | _ => none }
def FnExactIsOrientationWrongFalsely : Prop := fnExactIsOrientationRow.holds Try.pinned (OpenSpec.ofChange fnExactIsOrientationWrong)

/-- 'laws.FnExactGraphOfThreshold': WHATEVER THE INPUT: true; the input reads as it did. -/
def fnExactGraphOfThresholdSpec : ChangeSpec := { name := "fnExactGraphOfThreshold", fn := fun _ => fun
  | [d1, d2] => { results := [.lit (.bool true)], args := [d1, d2] }
  | _ => none }
def fnExactGraphOfThresholdRow : OpenClaim := { program := "ytbgkceekkinngac", sum := "56fe1bd655d93647ec887f992b7932ebb89758c884dbee17a57c68f0e43f5ff5", func := "loop.example/g02081/laws.FnExactGraphOfThreshold", spec := "fnExactGraphOfThreshold", unfollowed := true, recurses := true, apart := false }
def FnExactGraphOfThresholdSaid : Prop := fnExactGraphOfThresholdRow.holds Try.pinned (OpenSpec.ofChange fnExactGraphOfThresholdSpec)

/-- ITS FALSE NEIGHBOUR: 'it returns false'. Refute it at one input. -/
def fnExactGraphOfThresholdWrong : ChangeSpec := { name := "fnExactGraphOfThreshold", fn := fun _ => fun
  | [d1, d2] => { results := [.lit (.bool false)], args := [d1, d2] }
  | _ => none }
def FnExactGraphOfThresholdWrongFalsely : Prop := fnExactGraphOfThresholdRow.holds Try.pinned (OpenSpec.ofChange fnExactGraphOfThresholdWrong)

/-- 'laws.FnExactIsSimple': WHATEVER THE INPUT: true; the input reads as it did. -/
def fnExactIsSimpleSpec : ChangeSpec := { name := "fnExactIsSimple", fn := fun _ => fun
  | [d1, d2, d3] => { results := [.lit (.bool true)], args := [d1, d2, d3] }
  | _ => none }
def fnExactIsSimpleRow : OpenClaim := { program := "ytbgkceekkinngac", sum := "56fe1bd655d93647ec887f992b7932ebb89758c884dbee17a57c68f0e43f5ff5", func := "loop.example/g02081/laws.FnExactIsSimple", spec := "fnExactIsSimple", unfollowed := true, recurses := true, apart := false }
def FnExactIsSimpleSaid : Prop := fnExactIsSimpleRow.holds Try.pinned (OpenSpec.ofChange fnExactIsSimpleSpec)

/-- ITS FALSE NEIGHBOUR: 'it returns false'. Refute it at one input. -/
def fnExactIsSimpleWrong : ChangeSpec := { name := "fnExactIsSimple", fn := fun _ => fun
  | [d1, d2, d3] => { results := [.lit (.bool false)], args := [d1, d2, d3] }
  | _ => none }
def FnExactIsSimpleWrongFalsely : Prop := fnExactIsSimpleRow.holds Try.pinned (OpenSpec.ofChange fnExactIsSimpleWrong)

/-- 'laws.FnExactAreThresholdWeights': WHATEVER THE INPUT: true; the input reads as it did. -/
def fnExactAreThresholdWeightsSpec : ChangeSpec := { name := "fnExactAreThresholdWeights", fn := fun _ => fun
  | [d1, d2, d3] => { results := [.lit (.bool true)], args := [d1, d2, d3] }
  | _ => none }
def fnExactAreThresholdWeightsRow : OpenClaim := { program := "ytbgkceekkinngac", sum := "56fe1bd655d93647ec887f992b7932ebb89758c884dbee17a57c68f0e43f5ff5", func := "loop.example/g02081/laws.FnExactAreThresholdWeights", spec := "fnExactAreThresholdWeights", apart := false }
def FnExactAreThresholdWeightsSaid : Prop := fnExactAreThresholdWeightsRow.holds Try.pinned (OpenSpec.ofChange fnExactAreThresholdWeightsSpec)

/-- ITS FALSE NEIGHBOUR: 'it returns false'. Refute it at one input. -/
def fnExactAreThresholdWeightsWrong : ChangeSpec := { name := "fnExactAreThresholdWeights", fn := fun _ => fun
  | [d1, d2, d3] => { results := [.lit (.bool false)], args := [d1, d2, d3] }
  | _ => none }
def FnExactAreThresholdWeightsWrongFalsely : Prop := fnExactAreThresholdWeightsRow.holds Try.pinned (OpenSpec.ofChange fnExactAreThresholdWeightsWrong)

/-- 'laws.FnExactPermutationOfModel': WHATEVER THE INPUT: true; the input reads as it did. -/
def fnExactPermutationOfModelSpec : ChangeSpec := { name := "fnExactPermutationOfModel", fn := fun _ => fun
  | [d1, d2] => { results := [.lit (.bool true)], args := [d1, d2] }
  | _ => none }
def fnExactPermutationOfModelRow : OpenClaim := { program := "ytbgkceekkinngac", sum := "56fe1bd655d93647ec887f992b7932ebb89758c884dbee17a57c68f0e43f5ff5", func := "loop.example/g02081/laws.FnExactPermutationOfModel", spec := "fnExactPermutationOfModel", apart := false }
def FnExactPermutationOfModelSaid : Prop := fnExactPermutationOfModelRow.holds Try.pinned (OpenSpec.ofChange fnExactPermutationOfModelSpec)

/-- ITS FALSE NEIGHBOUR: 'it returns false'. Refute it at one input. -/
def fnExactPermutationOfModelWrong : ChangeSpec := { name := "fnExactPermutationOfModel", fn := fun _ => fun
  | [d1, d2] => { results := [.lit (.bool false)], args := [d1, d2] }
  | _ => none }
def FnExactPermutationOfModelWrongFalsely : Prop := fnExactPermutationOfModelRow.holds Try.pinned (OpenSpec.ofChange fnExactPermutationOfModelWrong)

/-- 'laws.FnExactFindStretched': WHATEVER THE INPUT: true; the input reads as it did. -/
def fnExactFindStretchedSpec : ChangeSpec := { name := "fnExactFindStretched", fn := fun _ => fun
  | [d] => { results := [.lit (.bool true)], args := [d] }
  | _ => none }
def fnExactFindStretchedRow : OpenClaim := { program := "ytbgkceekkinngac", sum := "56fe1bd655d93647ec887f992b7932ebb89758c884dbee17a57c68f0e43f5ff5", func := "loop.example/g02081/laws.FnExactFindStretched", spec := "fnExactFindStretched", unfollowed := true, recurses := true, apart := false }
def FnExactFindStretchedSaid : Prop := fnExactFindStretchedRow.holds Try.pinned (OpenSpec.ofChange fnExactFindStretchedSpec)

/-- ITS FALSE NEIGHBOUR: 'it returns false'. Refute it at one input. -/
def fnExactFindStretchedWrong : ChangeSpec := { name := "fnExactFindStretched", fn := fun _ => fun
  | [d] => { results := [.lit (.bool false)], args := [d] }
  | _ => none }
def FnExactFindStretchedWrongFalsely : Prop := fnExactFindStretchedRow.holds Try.pinned (OpenSpec.ofChange fnExactFindStretchedWrong)

/- THE SECOND FORM. 'bulk': how many values and letters a reading holds, each counted each time it is reached (what is shared counts as often as it is met; a slice's spare places count too). A statement '..UptoSaid' is the law's where the arguments, and the package variables that the reading takes, are together of bulk at most 1048576: NARROWER than '..Said'. Prove '..Said' where nothing that the law and all that it calls make is longer than what came in: it says more and counts as full. Else prove '..UptoSaid'. A law counts once. -/
mutual
def uptoBulk {H : Type} : DataW H → Nat
  | .lit (.string bytes) => bytes.length + 1
  | .lit _ => 1
  | .nil => 1
  | .ptr d => uptoBulk d + 1
  | .slice elems spare => uptoBulkAll elems + uptoBulkAll spare + 1
  | .agg parts => uptoBulkAll parts + 1
  | .iface _ d => uptoBulk d + 1
  | .map entries => uptoBulkEntries entries + 1
  | .held _ => 1
def uptoBulkAll {H : Type} : List (DataW H) → Nat
  | [] => 0
  | d :: r => uptoBulk d + uptoBulkAll r
def uptoBulkEntries {H : Type} : List (Lit × DataW H) → Nat
  | [] => 0
  | x :: r => uptoBulkEntry x + uptoBulkEntries r
def uptoBulkEntry {H : Type} : Lit × DataW H → Nat
  | (.string bytes, d) => bytes.length + uptoBulk d + 1
  | (_, d) => uptoBulk d + 1
 end
def uptoSmall : (H : Type) → List (DataW H) → Bool := fun _ ds => decide (uptoBulkAll ds ≤ 1048576)
def OpenSpec.upto (s : _root_.Go.ChangeSpec) : _root_.Go.OpenSpec := { _root_.Go.OpenSpec.ofChange s with cond := some uptoSmall }

/-- 'laws.FnExactKeepsDistances', WHERE WHAT IT READS IS OF BULK AT MOST 1048576: true; the input reads as it did. -/
def fnExactKeepsDistancesUptoRow : OpenClaim := { program := "ytbgkceekkinngac", sum := "56fe1bd655d93647ec887f992b7932ebb89758c884dbee17a57c68f0e43f5ff5", func := "loop.example/g02081/laws.FnExactKeepsDistances", spec := "fnExactKeepsDistances", unfollowed := true, recurses := true, apart := false, narrowed := true }
def FnExactKeepsDistancesUptoSaid : Prop := fnExactKeepsDistancesUptoRow.holds Try.pinned (OpenSpec.upto fnExactKeepsDistancesSpec)

/-- 'laws.FnExactCutOf', WHERE WHAT IT READS IS OF BULK AT MOST 1048576: true; the input reads as it did. -/
def fnExactCutOfUptoRow : OpenClaim := { program := "ytbgkceekkinngac", sum := "56fe1bd655d93647ec887f992b7932ebb89758c884dbee17a57c68f0e43f5ff5", func := "loop.example/g02081/laws.FnExactCutOf", spec := "fnExactCutOf", unfollowed := true, recurses := true, apart := false, narrowed := true }
def FnExactCutOfUptoSaid : Prop := fnExactCutOfUptoRow.holds Try.pinned (OpenSpec.upto fnExactCutOfSpec)

/-- 'laws.FnExactIsSandwich', WHERE WHAT IT READS IS OF BULK AT MOST 1048576: true; the input reads as it did. -/
def fnExactIsSandwichUptoRow : OpenClaim := { program := "ytbgkceekkinngac", sum := "56fe1bd655d93647ec887f992b7932ebb89758c884dbee17a57c68f0e43f5ff5", func := "loop.example/g02081/laws.FnExactIsSandwich", spec := "fnExactIsSandwich", apart := false, narrowed := true }
def FnExactIsSandwichUptoSaid : Prop := fnExactIsSandwichUptoRow.holds Try.pinned (OpenSpec.upto fnExactIsSandwichSpec)

/-- 'laws.FnExactIsTree', WHERE WHAT IT READS IS OF BULK AT MOST 1048576: true; the input reads as it did. -/
def fnExactIsTreeUptoRow : OpenClaim := { program := "ytbgkceekkinngac", sum := "56fe1bd655d93647ec887f992b7932ebb89758c884dbee17a57c68f0e43f5ff5", func := "loop.example/g02081/laws.FnExactIsTree", spec := "fnExactIsTree", apart := false, narrowed := true }
def FnExactIsTreeUptoSaid : Prop := fnExactIsTreeUptoRow.holds Try.pinned (OpenSpec.upto fnExactIsTreeSpec)

/-- 'laws.FnExactStrongModules', WHERE WHAT IT READS IS OF BULK AT MOST 1048576: true; the input reads as it did. -/
def fnExactStrongModulesUptoRow : OpenClaim := { program := "ytbgkceekkinngac", sum := "56fe1bd655d93647ec887f992b7932ebb89758c884dbee17a57c68f0e43f5ff5", func := "loop.example/g02081/laws.FnExactStrongModules", spec := "fnExactStrongModules", unfollowed := true, recurses := true, apart := false, narrowed := true }
def FnExactStrongModulesUptoSaid : Prop := fnExactStrongModulesUptoRow.holds Try.pinned (OpenSpec.upto fnExactStrongModulesSpec)

/-- 'laws.FnExactIsOrientation', WHERE WHAT IT READS IS OF BULK AT MOST 1048576: true; the input reads as it did. -/
def fnExactIsOrientationUptoRow : OpenClaim := { program := "ytbgkceekkinngac", sum := "56fe1bd655d93647ec887f992b7932ebb89758c884dbee17a57c68f0e43f5ff5", func := "loop.example/g02081/laws.FnExactIsOrientation", spec := "fnExactIsOrientation", apart := false, narrowed := true }
def FnExactIsOrientationUptoSaid : Prop := fnExactIsOrientationUptoRow.holds Try.pinned (OpenSpec.upto fnExactIsOrientationSpec)

/-- 'laws.FnExactGraphOfThreshold', WHERE WHAT IT READS IS OF BULK AT MOST 1048576: true; the input reads as it did. -/
def fnExactGraphOfThresholdUptoRow : OpenClaim := { program := "ytbgkceekkinngac", sum := "56fe1bd655d93647ec887f992b7932ebb89758c884dbee17a57c68f0e43f5ff5", func := "loop.example/g02081/laws.FnExactGraphOfThreshold", spec := "fnExactGraphOfThreshold", unfollowed := true, recurses := true, apart := false, narrowed := true }
def FnExactGraphOfThresholdUptoSaid : Prop := fnExactGraphOfThresholdUptoRow.holds Try.pinned (OpenSpec.upto fnExactGraphOfThresholdSpec)

/-- 'laws.FnExactIsSimple', WHERE WHAT IT READS IS OF BULK AT MOST 1048576: true; the input reads as it did. -/
def fnExactIsSimpleUptoRow : OpenClaim := { program := "ytbgkceekkinngac", sum := "56fe1bd655d93647ec887f992b7932ebb89758c884dbee17a57c68f0e43f5ff5", func := "loop.example/g02081/laws.FnExactIsSimple", spec := "fnExactIsSimple", unfollowed := true, recurses := true, apart := false, narrowed := true }
def FnExactIsSimpleUptoSaid : Prop := fnExactIsSimpleUptoRow.holds Try.pinned (OpenSpec.upto fnExactIsSimpleSpec)

/-- 'laws.FnExactAreThresholdWeights', WHERE WHAT IT READS IS OF BULK AT MOST 1048576: true; the input reads as it did. -/
def fnExactAreThresholdWeightsUptoRow : OpenClaim := { program := "ytbgkceekkinngac", sum := "56fe1bd655d93647ec887f992b7932ebb89758c884dbee17a57c68f0e43f5ff5", func := "loop.example/g02081/laws.FnExactAreThresholdWeights", spec := "fnExactAreThresholdWeights", apart := false, narrowed := true }
def FnExactAreThresholdWeightsUptoSaid : Prop := fnExactAreThresholdWeightsUptoRow.holds Try.pinned (OpenSpec.upto fnExactAreThresholdWeightsSpec)

/-- 'laws.FnExactPermutationOfModel', WHERE WHAT IT READS IS OF BULK AT MOST 1048576: true; the input reads as it did. -/
def fnExactPermutationOfModelUptoRow : OpenClaim := { program := "ytbgkceekkinngac", sum := "56fe1bd655d93647ec887f992b7932ebb89758c884dbee17a57c68f0e43f5ff5", func := "loop.example/g02081/laws.FnExactPermutationOfModel", spec := "fnExactPermutationOfModel", apart := false, narrowed := true }
def FnExactPermutationOfModelUptoSaid : Prop := fnExactPermutationOfModelUptoRow.holds Try.pinned (OpenSpec.upto fnExactPermutationOfModelSpec)

/-- 'laws.FnExactFindStretched', WHERE WHAT IT READS IS OF BULK AT MOST 1048576: true; the input reads as it did. -/
def fnExactFindStretchedUptoRow : OpenClaim := { program := "ytbgkceekkinngac", sum := "56fe1bd655d93647ec887f992b7932ebb89758c884dbee17a57c68f0e43f5ff5", func := "loop.example/g02081/laws.FnExactFindStretched", spec := "fnExactFindStretched", unfollowed := true, recurses := true, apart := false, narrowed := true }
def FnExactFindStretchedUptoSaid : Prop := fnExactFindStretchedUptoRow.holds Try.pinned (OpenSpec.upto fnExactFindStretchedSpec)

end Rows
end Go.Proofs.Ytbgkceekkinngac
