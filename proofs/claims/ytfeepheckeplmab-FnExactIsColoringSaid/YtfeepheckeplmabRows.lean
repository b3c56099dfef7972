/-
  No cell of these rows narrows 'for every input' (looked for: loops, veiled, ifaces, maps, wideKeys, modest, calm, conditions, laid).
  DERIVED. THE GIVEN ROWS OF THIS SEAT. 12 by the template 'for every input the law returns true; each argument reads behind the call as it read before'; 0 by the template 'total and deterministic' (their statements: YtfeepheckeplmabTotals.lean).
  GIVEN WITH THE SEED: the statements are not yours to turn. If you find one false, say at which input.
  Laid BY PROGRAM, IN A SANDBOX (cutbox-rows.mjs): the forced cells as the released guide's own fill.sh prints them over the translation 250154b88a25e342… (all of the seat's roots in one cut). By AI agents, Wed Nov 11 2026. No macro, syntax, notation, axiom, sorry.
-/
import Derived.Test.YtfeepheckeplmabChecked
import GoSem.Claim
import GoSem.ClaimJoined
import GoSem.ClaimMapViews
import Derived.JoinedTies
import Derived.KernelRfl
namespace Go.Proofs.Ytfeepheckeplmab
/- THE CELL 'sum', in the pinned program and in every row, IS THE sha256 OF THE DUMP (.gsa) THAT YtfeepheckeplmabProg.lean LOADS. Nothing in Lean hashes anything: it is a label: what it is worth is what the hold of that sum in a sandbox is worth. -/
noncomputable def Try.pinned : Pinned := { name := "ytfeepheckeplmab", sum := "250154b88a25e342fa2ac6f548d91789e5d2b8321a2bb384e7aae23daa8c7cc0", checked := Try.checked }
namespace Rows
def none {H : Type} : Left H := { results := [], args := [] }

/-- 'laws.FnExactSimplicialOf': WHATEVER THE INPUT: true; the input reads as it did. -/
def fnExactSimplicialOfSpec : ChangeSpec := { name := "fnExactSimplicialOf", fn := fun _ => fun
  | [d] => { results := [.lit (.bool true)], args := [d] }
  | _ => none }
def fnExactSimplicialOfRow : OpenClaim := { program := "ytfeepheckeplmab", sum := "250154b88a25e342fa2ac6f548d91789e5d2b8321a2bb384e7aae23daa8c7cc0", func := "loop.example/g02081/laws.FnExactSimplicialOf", spec := "fnExactSimplicialOf", unfollowed := true, recurses := true, apart := false }
def FnExactSimplicialOfSaid : Prop := fnExactSimplicialOfRow.holds Try.pinned (OpenSpec.ofChange fnExactSimplicialOfSpec)

/-- ITS FALSE NEIGHBOUR: 'it returns false'. Refute it at one input. -/
def fnExactSimplicialOfWrong : ChangeSpec := { name := "fnExactSimplicialOf", fn := fun _ => fun
  | [d] => { results := [.lit (.bool false)], args := [d] }
  | _ => none }
def FnExactSimplicialOfWrongFalsely : Prop := fnExactSimplicialOfRow.holds Try.pinned (OpenSpec.ofChange fnExactSimplicialOfWrong)

/-- 'laws.FnExactIsColoring': WHATEVER THE INPUT: true; the input reads as it did. -/
def fnExactIsColoringSpec : ChangeSpec := { name := "fnExactIsColoring", fn := fun _ => fun
  | [d1, d2] => { results := [.lit (.bool true)], args := [d1, d2] }
  | _ => none }
def fnExactIsColoringRow : OpenClaim := { program := "ytfeepheckeplmab", sum := "250154b88a25e342fa2ac6f548d91789e5d2b8321a2bb384e7aae23daa8c7cc0", func := "loop.example/g02081/laws.FnExactIsColoring", spec := "fnExactIsColoring", unfollowed := true, recurses := true, apart := false }
def FnExactIsColoringSaid : Prop := fnExactIsColoringRow.holds Try.pinned (OpenSpec.ofChange fnExactIsColoringSpec)

/-- ITS FALSE NEIGHBOUR: 'it returns false'. Refute it at one input. -/
def fnExactIsColoringWrong : ChangeSpec := { name := "fnExactIsColoring", fn := fun _ => fun
  | [d1, d2] => { results := [.lit (.bool false)], args := [d1, d2] }
  | _ => none }
def FnExactIsColoringWrongFalsely : Prop := fnExactIsColoringRow.holds Try.pinned (OpenSpec.ofChange fnExactIsColoringWrong)

/-- 'laws.FnExactIsMinimalSeparator': WHATEVER THE INPUT: true; the input reads as it did. -/
def fnExactIsMinimalSeparatorSpec : ChangeSpec := { name := "fnExactIsMinimalSeparator", fn := fun _ => fun
  | [d1, d2] => { results := [.lit (.bool true)], args := [d1, d2] }
  | _ => none }
def fnExactIsMinimalSeparatorRow : OpenClaim := { program := "ytfeepheckeplmab", sum := "250154b88a25e342fa2ac6f548d91789e5d2b8321a2bb384e7aae23daa8c7cc0", func := "loop.example/g02081/laws.FnExactIsMinimalSeparator", spec := "fnExactIsMinimalSeparator", unfollowed := true, recurses := true, apart := false }
def FnExactIsMinimalSeparatorSaid : Prop := fnExactIsMinimalSeparatorRow.holds Try.pinned (OpenSpec.ofChange fnExactIsMinimalSeparatorSpec)

/-- ITS FALSE NEIGHBOUR: 'it returns false'. Refute it at one input. -/
def fnExactIsMinimalSeparatorWrong : ChangeSpec := { name := "fnExactIsMinimalSeparator", fn := fun _ => fun
  | [d1, d2] => { results := [.lit (.bool false)], args := [d1, d2] }
  | _ => none }
def FnExactIsMinimalSeparatorWrongFalsely : Prop := fnExactIsMinimalSeparatorRow.holds Try.pinned (OpenSpec.ofChange fnExactIsMinimalSeparatorWrong)

/-- 'laws.FnExactSeparatorsOf': WHATEVER THE INPUT: true; the input reads as it did. -/
def fnExactSeparatorsOfSpec : ChangeSpec := { name := "fnExactSeparatorsOf", fn := fun _ => fun
  | [d] => { results := [.lit (.bool true)], args := [d] }
  | _ => none }
def fnExactSeparatorsOfRow : OpenClaim := { program := "ytfeepheckeplmab", sum := "250154b88a25e342fa2ac6f548d91789e5d2b8321a2bb384e7aae23daa8c7cc0", func := "loop.example/g02081/laws.FnExactSeparatorsOf", spec := "fnExactSeparatorsOf", unfollowed := true, recurses := true, apart := false }
def FnExactSeparatorsOfSaid : Prop := fnExactSeparatorsOfRow.holds Try.pinned (OpenSpec.ofChange fnExactSeparatorsOfSpec)

/-- ITS FALSE NEIGHBOUR: 'it returns false'. Refute it at one input. -/
def fnExactSeparatorsOfWrong : ChangeSpec := { name := "fnExactSeparatorsOf", fn := fun _ => fun
  | [d] => { results := [.lit (.bool false)], args := [d] }
  | _ => none }
def FnExactSeparatorsOfWrongFalsely : Prop := fnExactSeparatorsOfRow.holds Try.pinned (OpenSpec.ofChange fnExactSeparatorsOfWrong)

/-- 'laws.FnExactIsModule': WHATEVER THE INPUT: true; the input reads as it did. -/
def fnExactIsModuleSpec : ChangeSpec := { name := "fnExactIsModule", fn := fun _ => fun
  | [d1, d2] => { results := [.lit (.bool true)], args := [d1, d2] }
  | _ => none }
def fnExactIsModuleRow : OpenClaim := { program := "ytfeepheckeplmab", sum := "250154b88a25e342fa2ac6f548d91789e5d2b8321a2bb384e7aae23daa8c7cc0", func := "loop.example/g02081/laws.FnExactIsModule", spec := "fnExactIsModule", unfollowed := true, recurses := true, apart := false }
def FnExactIsModuleSaid : Prop := fnExactIsModuleRow.holds Try.pinned (OpenSpec.ofChange fnExactIsModuleSpec)

/-- ITS FALSE NEIGHBOUR: 'it returns false'. Refute it at one input. -/
def fnExactIsModuleWrong : ChangeSpec := { name := "fnExactIsModule", fn := fun _ => fun
  | [d1, d2] => { results := [.lit (.bool false)], args := [d1, d2] }
  | _ => none }
def FnExactIsModuleWrongFalsely : Prop := fnExactIsModuleRow.holds Try.pinned (OpenSpec.ofChange fnExactIsModuleWrong)

/-- 'laws.FnExactTwinsOf': WHATEVER THE INPUT: true; the input reads as it did. -/
def fnExactTwinsOfSpec : ChangeSpec := { name := "fnExactTwinsOf", fn := fun _ => fun
  | [d1, d2] => { results := [.lit (.bool true)], args := [d1, d2] }
  | _ => none }
def fnExactTwinsOfRow : OpenClaim := { program := "ytfeepheckeplmab", sum := "250154b88a25e342fa2ac6f548d91789e5d2b8321a2bb384e7aae23daa8c7cc0", func := "loop.example/g02081/laws.FnExactTwinsOf", spec := "fnExactTwinsOf", unfollowed := true, recurses := true, apart := false }
def FnExactTwinsOfSaid : Prop := fnExactTwinsOfRow.holds Try.pinned (OpenSpec.ofChange fnExactTwinsOfSpec)

/-- ITS FALSE NEIGHBOUR: 'it returns false'. Refute it at one input. -/
def fnExactTwinsOfWrong : ChangeSpec := { name := "fnExactTwinsOf", fn := fun _ => fun
  | [d1, d2] => { results := [.lit (.bool false)], args := [d1, d2] }
  | _ => none }
def FnExactTwinsOfWrongFalsely : Prop := fnExactTwinsOfRow.holds Try.pinned (OpenSpec.ofChange fnExactTwinsOfWrong)

/-- 'laws.FnExactModulesOf': WHATEVER THE INPUT: true; the input reads as it did. -/
def fnExactModulesOfSpec : ChangeSpec := { name := "fnExactModulesOf", fn := fun _ => fun
  | [d] => { results := [.lit (.bool true)], args := [d] }
  | _ => none }
def fnExactModulesOfRow : OpenClaim := { program := "ytfeepheckeplmab", sum := "250154b88a25e342fa2ac6f548d91789e5d2b8321a2bb384e7aae23daa8c7cc0", func := "loop.example/g02081/laws.FnExactModulesOf", spec := "fnExactModulesOf", unfollowed := true, recurses := true, apart := false }
def FnExactModulesOfSaid : Prop := fnExactModulesOfRow.holds Try.pinned (OpenSpec.ofChange fnExactModulesOfSpec)

/-- ITS FALSE NEIGHBOUR: 'it returns false'. Refute it at one input. -/
def fnExactModulesOfWrong : ChangeSpec := { name := "fnExactModulesOf", fn := fun _ => fun
  | [d] => { results := [.lit (.bool false)], args := [d] }
  | _ => none }
def FnExactModulesOfWrongFalsely : Prop := fnExactModulesOfRow.holds Try.pinned (OpenSpec.ofChange fnExactModulesOfWrong)

/-- 'laws.FnExactIsPrime': WHATEVER THE INPUT: true; the input reads as it did. -/
def fnExactIsPrimeSpec : ChangeSpec := { name := "fnExactIsPrime", fn := fun _ => fun
  | [d] => { results := [.lit (.bool true)], args := [d] }
  | _ => none }
def fnExactIsPrimeRow : OpenClaim := { program := "ytfeepheckeplmab", sum := "250154b88a25e342fa2ac6f548d91789e5d2b8321a2bb384e7aae23daa8c7cc0", func := "loop.example/g02081/laws.FnExactIsPrime", spec := "fnExactIsPrime", unfollowed := true, recurses := true, apart := false }
def FnExactIsPrimeSaid : Prop := fnExactIsPrimeRow.holds Try.pinned (OpenSpec.ofChange fnExactIsPrimeSpec)

/-- ITS FALSE NEIGHBOUR: 'it returns false'. Refute it at one input. -/
def fnExactIsPrimeWrong : ChangeSpec := { name := "fnExactIsPrime", fn := fun _ => fun
  | [d] => { results := [.lit (.bool false)], args := [d] }
  | _ => none }
def FnExactIsPrimeWrongFalsely : Prop := fnExactIsPrimeRow.holds Try.pinned (OpenSpec.ofChange fnExactIsPrimeWrong)

/-- 'laws.FnExactIsSplitPartition': WHATEVER THE INPUT: true; the input reads as it did. -/
def fnExactIsSplitPartitionSpec : ChangeSpec := { name := "fnExactIsSplitPartition", fn := fun _ => fun
  | [d1, d2] => { results := [.lit (.bool true)], args := [d1, d2] }
  | _ => none }
def fnExactIsSplitPartitionRow : OpenClaim := { program := "ytfeepheckeplmab", sum := "250154b88a25e342fa2ac6f548d91789e5d2b8321a2bb384e7aae23daa8c7cc0", func := "loop.example/g02081/laws.FnExactIsSplitPartition", spec := "fnExactIsSplitPartition", unfollowed := true, recurses := true, apart := false }
def FnExactIsSplitPartitionSaid : Prop := fnExactIsSplitPartitionRow.holds Try.pinned (OpenSpec.ofChange fnExactIsSplitPartitionSpec)

/-- ITS FALSE NEIGHBOUR: 'it returns false'. Refute it at one input. -/
def fnExactIsSplitPartitionWrong : ChangeSpec := { name := "fnExactIsSplitPartition", fn := fun _ => fun
  | [d1, d2] => { results := [.lit (.bool false)], args := [d1, d2] }
  | _ => none }
def FnExactIsSplitPartitionWrongFalsely : Prop := fnExactIsSplitPartitionRow.holds Try.pinned (OpenSpec.ofChange fnExactIsSplitPartitionWrong)

/-- 'laws.FnExactSplitOf': WHATEVER THE INPUT: true; the input reads as it did. -/
def fnExactSplitOfSpec : ChangeSpec := { name := "fnExactSplitOf", fn := fun _ => fun
  | [d] => { results := [.lit (.bool true)], args := [d] }
  | _ => none }
def fnExactSplitOfRow : OpenClaim := { program := "ytfeepheckeplmab", sum := "250154b88a25e342fa2ac6f548d91789e5d2b8321a2bb384e7aae23daa8c7cc0", func := "loop.example/g02081/laws.FnExactSplitOf", spec := "fnExactSplitOf", unfollowed := true, recurses := true, apart := false }
def FnExactSplitOfSaid : Prop := fnExactSplitOfRow.holds Try.pinned (OpenSpec.ofChange fnExactSplitOfSpec)

/-- ITS FALSE NEIGHBOUR: 'it returns false'. Refute it at one input. -/
def fnExactSplitOfWrong : ChangeSpec := { name := "fnExactSplitOf", fn := fun _ => fun
  | [d] => { results := [.lit (.bool false)], args := [d] }
  | _ => none }
def FnExactSplitOfWrongFalsely : Prop := fnExactSplitOfRow.holds Try.pinned (OpenSpec.ofChange fnExactSplitOfWrong)

/-- 'laws.FnExactCountSplits': WHATEVER THE INPUT: true; the input reads as it did. -/
def fnExactCountSplitsSpec : ChangeSpec := { name := "fnExactCountSplits", fn := fun _ => fun
  | [d] => { results := [.lit (.bool true)], args := [d] }
  | _ => none }
def fnExactCountSplitsRow : OpenClaim := { program := "ytfeepheckeplmab", sum := "250154b88a25e342fa2ac6f548d91789e5d2b8321a2bb384e7aae23daa8c7cc0", func := "loop.example/g02081/laws.FnExactCountSplits", spec := "fnExactCountSplits", unfollowed := true, recurses := true, apart := false }
def FnExactCountSplitsSaid : Prop := fnExactCountSplitsRow.holds Try.pinned (OpenSpec.ofChange fnExactCountSplitsSpec)

/-- ITS FALSE NEIGHBOUR: 'it returns false'. Refute it at one input. -/
def fnExactCountSplitsWrong : ChangeSpec := { name := "fnExactCountSplits", fn := fun _ => fun
  | [d] => { results := [.lit (.bool false)], args := [d] }
  | _ => none }
def FnExactCountSplitsWrongFalsely : Prop := fnExactCountSplitsRow.holds Try.pinned (OpenSpec.ofChange fnExactCountSplitsWrong)

/-- 'laws.FnExactIsCover': WHATEVER THE INPUT: true; the input reads as it did. -/
def fnExactIsCoverSpec : ChangeSpec := { name := "fnExactIsCover", fn := fun _ => fun
  | [d1, d2] => { results := [.lit (.bool true)], args := [d1, d2] }
  | _ => none }
def fnExactIsCoverRow : OpenClaim := { program := "ytfeepheckeplmab", sum := "250154b88a25e342fa2ac6f548d91789e5d2b8321a2bb384e7aae23daa8c7cc0", func := "loop.example/g02081/laws.FnExactIsCover", spec := "fnExactIsCover", unfollowed := true, recurses := true, apart := false }
def FnExactIsCoverSaid : Prop := fnExactIsCoverRow.holds Try.pinned (OpenSpec.ofChange fnExactIsCoverSpec)

/-- ITS FALSE NEIGHBOUR: 'it returns false'. Refute it at one input. -/
def fnExactIsCoverWrong : ChangeSpec := { name := "fnExactIsCover", fn := fun _ => fun
  | [d1, d2] => { results := [.lit (.bool false)], args := [d1, d2] }
  | _ => none }
def FnExactIsCoverWrongFalsely : Prop := fnExactIsCoverRow.holds Try.pinned (OpenSpec.ofChange fnExactIsCoverWrong)

/- THE SECOND FORM. 'bulk': how many values and letters a reading holds, each counted each time it is reached (what is shared counts as often as it is met; a slice's spare places count too). A statement '..UptoSaid' is the law's where the arguments, and the package variables that the reading takes, are together of bulk at most 1048576: NARROWER than '..Said'. Prove '..Said' where nothing that the law and all that it calls make is longer than what came in: it says more and counts as full. Else prove '..UptoSaid'. A law counts once. -/
mutual
def uptoBulk {H : Type} : DataW H → Nat
  | .lit (.string bytes) => bytes.length + 1
  | .lit _ => 1
  | .nil => 1
  | .ptr d => uptoBulk d + 1
  | .slice elems spare => uptoBulkAll elems + uptoBulkAll spare + 1
  | .agg parts => uptoBulkAll parts + 1
  | .iface _ d => uptoBulk d + 1
  | .map entries => uptoBulkEntries entries + 1
  | .held _ => 1
def uptoBulkAll {H : Type} : List (DataW H) → Nat
  | [] => 0
  | d :: r => uptoBulk d + uptoBulkAll r
def uptoBulkEntries {H : Type} : List (Lit × DataW H) → Nat
  | [] => 0
  | x :: r => uptoBulkEntry x + uptoBulkEntries r
def uptoBulkEntry {H : Type} : Lit × DataW H → Nat
  | (.string bytes, d) => bytes.length + uptoBulk d + 1
  | (_, d) => uptoBulk d + 1
 end
def uptoSmall : (H : Type) → List (DataW H) → Bool := fun _ ds => decide (uptoBulkAll ds ≤ 1048576)
def OpenSpec.upto (s : _root_.Go.ChangeSpec) : _root_.Go.OpenSpec := { _root_.Go.OpenSpec.ofChange s with cond := some uptoSmall }

/-- 'laws.FnExactSimplicialOf', WHERE WHAT IT READS IS OF BULK AT MOST 1048576: true; the input reads as it did. -/
def fnExactSimplicialOfUptoRow : OpenClaim := { program := "ytfeepheckeplmab", sum := "250154b88a25e342fa2ac6f548d91789e5d2b8321a2bb384e7aae23daa8c7cc0", func := "loop.example/g02081/laws.FnExactSimplicialOf", spec := "fnExactSimplicialOf", unfollowed := true, recurses := true, apart := false, narrowed := true }
def FnExactSimplicialOfUptoSaid : Prop := fnExactSimplicialOfUptoRow.holds Try.pinned (OpenSpec.upto fnExactSimplicialOfSpec)

/-- 'laws.FnExactIsColoring', WHERE WHAT IT READS IS OF BULK AT MOST 1048576: true; the input reads as it did. -/
def fnExactIsColoringUptoRow : OpenClaim := { program := "ytfeepheckeplmab", sum := "250154b88a25e342fa2ac6f548d91789e5d2b8321a2bb384e7aae23daa8c7cc0", func := "loop.example/g02081/laws.FnExactIsColoring", spec := "fnExactIsColoring", unfollowed := true, recurses := true, apart := false, narrowed := true }
def FnExactIsColoringUptoSaid : Prop := fnExactIsColoringUptoRow.holds Try.pinned (OpenSpec.upto fnExactIsColoringSpec)

/-- 'laws.FnExactIsMinimalSeparator', WHERE WHAT IT READS IS OF BULK AT MOST 1048576: true; the input reads as it did. -/
def fnExactIsMinimalSeparatorUptoRow : OpenClaim := { program := "ytfeepheckeplmab", sum := "250154b88a25e342fa2ac6f548d91789e5d2b8321a2bb384e7aae23daa8c7cc0", func := "loop.example/g02081/laws.FnExactIsMinimalSeparator", spec := "fnExactIsMinimalSeparator", unfollowed := true, recurses := true, apart := false, narrowed := true }
def FnExactIsMinimalSeparatorUptoSaid : Prop := fnExactIsMinimalSeparatorUptoRow.holds Try.pinned (OpenSpec.upto fnExactIsMinimalSeparatorSpec)

/-- 'laws.FnExactSeparatorsOf', WHERE WHAT IT READS IS OF BULK AT MOST 1048576: true; the input reads as it did. -/
def fnExactSeparatorsOfUptoRow : OpenClaim := { program := "ytfeepheckeplmab", sum := "250154b88a25e342fa2ac6f548d91789e5d2b8321a2bb384e7aae23daa8c7cc0", func := "loop.example/g02081/laws.FnExactSeparatorsOf", spec := "fnExactSeparatorsOf", unfollowed := true, recurses := true, apart := false, narrowed := true }
def FnExactSeparatorsOfUptoSaid : Prop := fnExactSeparatorsOfUptoRow.holds Try.pinned (OpenSpec.upto fnExactSeparatorsOfSpec)

/-- 'laws.FnExactIsModule', WHERE WHAT IT READS IS OF BULK AT MOST 1048576: true; the input reads as it did. -/
def fnExactIsModuleUptoRow : OpenClaim := { program := "ytfeepheckeplmab", sum := "250154b88a25e342fa2ac6f548d91789e5d2b8321a2bb384e7aae23daa8c7cc0", func := "loop.example/g02081/laws.FnExactIsModule", spec := "fnExactIsModule", unfollowed := true, recurses := true, apart := false, narrowed := true }
def FnExactIsModuleUptoSaid : Prop := fnExactIsModuleUptoRow.holds Try.pinned (OpenSpec.upto fnExactIsModuleSpec)

/-- 'laws.FnExactTwinsOf', WHERE WHAT IT READS IS OF BULK AT MOST 1048576: true; the input reads as it did. -/
def fnExactTwinsOfUptoRow : OpenClaim := { program := "ytfeepheckeplmab", sum := "250154b88a25e342fa2ac6f548d91789e5d2b8321a2bb384e7aae23daa8c7cc0", func := "loop.example/g02081/laws.FnExactTwinsOf", spec := "fnExactTwinsOf", unfollowed := true, recurses := true, apart := false, narrowed := true }
def FnExactTwinsOfUptoSaid : Prop := fnExactTwinsOfUptoRow.holds Try.pinned (OpenSpec.upto fnExactTwinsOfSpec)

/-- 'laws.FnExactModulesOf', WHERE WHAT IT READS IS OF BULK AT MOST 1048576: true; the input reads as it did. -/
def fnExactModulesOfUptoRow : OpenClaim := { program := "ytfeepheckeplmab", sum := "250154b88a25e342fa2ac6f548d91789e5d2b8321a2bb384e7aae23daa8c7cc0", func := "loop.example/g02081/laws.FnExactModulesOf", spec := "fnExactModulesOf", unfollowed := true, recurses := true, apart := false, narrowed := true }
def FnExactModulesOfUptoSaid : Prop := fnExactModulesOfUptoRow.holds Try.pinned (OpenSpec.upto fnExactModulesOfSpec)

/-- 'laws.FnExactIsPrime', WHERE WHAT IT READS IS OF BULK AT MOST 1048576: true; the input reads as it did. -/
def fnExactIsPrimeUptoRow : OpenClaim := { program := "ytfeepheckeplmab", sum := "250154b88a25e342fa2ac6f548d91789e5d2b8321a2bb384e7aae23daa8c7cc0", func := "loop.example/g02081/laws.FnExactIsPrime", spec := "fnExactIsPrime", unfollowed := true, recurses := true, apart := false, narrowed := true }
def FnExactIsPrimeUptoSaid : Prop := fnExactIsPrimeUptoRow.holds Try.pinned (OpenSpec.upto fnExactIsPrimeSpec)

/-- 'laws.FnExactIsSplitPartition', WHERE WHAT IT READS IS OF BULK AT MOST 1048576: true; the input reads as it did. -/
def fnExactIsSplitPartitionUptoRow : OpenClaim := { program := "ytfeepheckeplmab", sum := "250154b88a25e342fa2ac6f548d91789e5d2b8321a2bb384e7aae23daa8c7cc0", func := "loop.example/g02081/laws.FnExactIsSplitPartition", spec := "fnExactIsSplitPartition", unfollowed := true, recurses := true, apart := false, narrowed := true }
def FnExactIsSplitPartitionUptoSaid : Prop := fnExactIsSplitPartitionUptoRow.holds Try.pinned (OpenSpec.upto fnExactIsSplitPartitionSpec)

/-- 'laws.FnExactSplitOf', WHERE WHAT IT READS IS OF BULK AT MOST 1048576: true; the input reads as it did. -/
def fnExactSplitOfUptoRow : OpenClaim := { program := "ytfeepheckeplmab", sum := "250154b88a25e342fa2ac6f548d91789e5d2b8321a2bb384e7aae23daa8c7cc0", func := "loop.example/g02081/laws.FnExactSplitOf", spec := "fnExactSplitOf", unfollowed := true, recurses := true, apart := false, narrowed := true }
def FnExactSplitOfUptoSaid : Prop := fnExactSplitOfUptoRow.holds Try.pinned (OpenSpec.upto fnExactSplitOfSpec)

/-- 'laws.FnExactCountSplits', WHERE WHAT IT READS IS OF BULK AT MOST 1048576: true; the input reads as it did. -/
def fnExactCountSplitsUptoRow : OpenClaim := { program := "ytfeepheckeplmab", sum := "250154b88a25e342fa2ac6f548d91789e5d2b8321a2bb384e7aae23daa8c7cc0", func := "loop.example/g02081/laws.FnExactCountSplits", spec := "fnExactCountSplits", unfollowed := true, recurses := true, apart := false, narrowed := true }
def FnExactCountSplitsUptoSaid : Prop := fnExactCountSplitsUptoRow.holds Try.pinned (OpenSpec.upto fnExactCountSplitsSpec)

/-- 'laws.FnExactIsCover', WHERE WHAT IT READS IS OF BULK AT MOST 1048576: true; the input reads as it did. -/
def fnExactIsCoverUptoRow : OpenClaim := { program := "ytfeepheckeplmab", sum := "250154b88a25e342fa2ac6f548d91789e5d2b8321a2bb384e7aae23daa8c7cc0", func := "loop.example/g02081/laws.FnExactIsCover", spec := "fnExactIsCover", unfollowed := true, recurses := true, apart := false, narrowed := true }
def FnExactIsCoverUptoSaid : Prop := fnExactIsCoverUptoRow.holds Try.pinned (OpenSpec.upto fnExactIsCoverSpec)

end Rows
end Go.Proofs.Ytfeepheckeplmab
