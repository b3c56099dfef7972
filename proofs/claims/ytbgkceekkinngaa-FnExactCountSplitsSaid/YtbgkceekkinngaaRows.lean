/-
  No cell of these rows narrows 'for every input' (looked for: loops, veiled, ifaces, maps, wideKeys, modest, calm, conditions, laid).
  DERIVED. THE GIVEN ROWS OF THIS SEAT. 12 by the template 'for every input the law returns true; each argument reads behind the call as it read before'; 0 by the template 'total and deterministic' (their statements: YtbgkceekkinngaaTotals.lean).
  GIVEN WITH THE SEED: the statements are not yours to turn. If you find one false, say at which input.
  Laid BY PROGRAM, IN A SANDBOX (cutbox-rows.mjs): the forced cells as the released guide's own fill.sh prints them over the translation 1dbb5ec1e261c2ab… (all of the seat's roots in one cut). By AI agents, Wed Nov 11 2026. No macro, syntax, notation, axiom, sorry.
-/
import Derived.Test.YtbgkceekkinngaaChecked
import GoSem.Claim
import GoSem.ClaimJoined
import GoSem.ClaimMapViews
import Derived.JoinedTies
import Derived.KernelRfl
namespace Go.Proofs.Ytbgkceekkinngaa
/- THE CELL 'sum', in the pinned program and in every row, IS THE sha256 OF THE DUMP (.gsa) THAT YtbgkceekkinngaaProg.lean LOADS. Nothing in Lean hashes anything: it is a label: what it is worth is what the hold of that sum in a sandbox is worth. -/
noncomputable def Try.pinned : Pinned := { name := "ytbgkceekkinngaa", sum := "1dbb5ec1e261c2aba4e8100735ec3df22f9d1a1a46bf2956f59aa16bfd6a686a", checked := Try.checked }
namespace Rows
def none {H : Type} : Left H := { results := [], args := [] }

/-- 'laws.FnExactSplitOf': WHATEVER THE INPUT: true; the input reads as it did. -/
def fnExactSplitOfSpec : ChangeSpec := { name := "fnExactSplitOf", fn := fun _ => fun
  | [d] => { results := [.lit (.bool true)], args := [d] }
  | _ => none }
def fnExactSplitOfRow : OpenClaim := { program := "ytbgkceekkinngaa", sum := "1dbb5ec1e261c2aba4e8100735ec3df22f9d1a1a46bf2956f59aa16bfd6a686a", func := "loop.example/g02081/laws.FnExactSplitOf", spec := "fnExactSplitOf", unfollowed := true, recurses := true, apart := false }
def FnExactSplitOfSaid : Prop := fnExactSplitOfRow.holds Try.pinned (OpenSpec.ofChange fnExactSplitOfSpec)

/-- ITS FALSE NEIGHBOUR: 'it returns false'. Refute it at one input. -/
def fnExactSplitOfWrong : ChangeSpec := { name := "fnExactSplitOf", fn := fun _ => fun
  | [d] => { results := [.lit (.bool false)], args := [d] }
  | _ => none }
def FnExactSplitOfWrongFalsely : Prop := fnExactSplitOfRow.holds Try.pinned (OpenSpec.ofChange fnExactSplitOfWrong)

/-- 'laws.FnExactCountSplits': WHATEVER THE INPUT: true; the input reads as it did. -/
def fnExactCountSplitsSpec : ChangeSpec := { name := "fnExactCountSplits", fn := fun _ => fun
  | [d] => { results := [.lit (.bool true)], args := [d] }
  | _ => none }
def fnExactCountSplitsRow : OpenClaim := { program := "ytbgkceekkinngaa", sum := "1dbb5ec1e261c2aba4e8100735ec3df22f9d1a1a46bf2956f59aa16bfd6a686a", func := "loop.example/g02081/laws.FnExactCountSplits", spec := "fnExactCountSplits", unfollowed := true, recurses := true, apart := false }
def FnExactCountSplitsSaid : Prop := fnExactCountSplitsRow.holds Try.pinned (OpenSpec.ofChange fnExactCountSplitsSpec)

/-- ITS FALSE NEIGHBOUR: 'it returns false'. Refute it at one input. -/
def fnExactCountSplitsWrong : ChangeSpec := { name := "fnExactCountSplits", fn := fun _ => fun
  | [d] => { results := [.lit (.bool false)], args := [d] }
  | _ => none }
def FnExactCountSplitsWrongFalsely : Prop := fnExactCountSplitsRow.holds Try.pinned (OpenSpec.ofChange fnExactCountSplitsWrong)

/-- 'laws.FnExactIsSplit': WHATEVER THE INPUT: true; the input reads as it did. -/
def fnExactIsSplitSpec : ChangeSpec := { name := "fnExactIsSplit", fn := fun _ => fun
  | [d] => { results := [.lit (.bool true)], args := [d] }
  | _ => none }
def fnExactIsSplitRow : OpenClaim := { program := "ytbgkceekkinngaa", sum := "1dbb5ec1e261c2aba4e8100735ec3df22f9d1a1a46bf2956f59aa16bfd6a686a", func := "loop.example/g02081/laws.FnExactIsSplit", spec := "fnExactIsSplit", unfollowed := true, recurses := true, apart := false }
def FnExactIsSplitSaid : Prop := fnExactIsSplitRow.holds Try.pinned (OpenSpec.ofChange fnExactIsSplitSpec)

/-- ITS FALSE NEIGHBOUR: 'it returns false'. Refute it at one input. -/
def fnExactIsSplitWrong : ChangeSpec := { name := "fnExactIsSplit", fn := fun _ => fun
  | [d] => { results := [.lit (.bool false)], args := [d] }
  | _ => none }
def FnExactIsSplitWrongFalsely : Prop := fnExactIsSplitRow.holds Try.pinned (OpenSpec.ofChange fnExactIsSplitWrong)

/-- 'laws.FnExactIsDominating': WHATEVER THE INPUT: true; the input reads as it did. -/
def fnExactIsDominatingSpec : ChangeSpec := { name := "fnExactIsDominating", fn := fun _ => fun
  | [d1, d2] => { results := [.lit (.bool true)], args := [d1, d2] }
  | _ => none }
def fnExactIsDominatingRow : OpenClaim := { program := "ytbgkceekkinngaa", sum := "1dbb5ec1e261c2aba4e8100735ec3df22f9d1a1a46bf2956f59aa16bfd6a686a", func := "loop.example/g02081/laws.FnExactIsDominating", spec := "fnExactIsDominating", unfollowed := true, recurses := true, apart := false }
def FnExactIsDominatingSaid : Prop := fnExactIsDominatingRow.holds Try.pinned (OpenSpec.ofChange fnExactIsDominatingSpec)

/-- ITS FALSE NEIGHBOUR: 'it returns false'. Refute it at one input. -/
def fnExactIsDominatingWrong : ChangeSpec := { name := "fnExactIsDominating", fn := fun _ => fun
  | [d1, d2] => { results := [.lit (.bool false)], args := [d1, d2] }
  | _ => none }
def FnExactIsDominatingWrongFalsely : Prop := fnExactIsDominatingRow.holds Try.pinned (OpenSpec.ofChange fnExactIsDominatingWrong)

/-- 'laws.FnExactFewestDominating': WHATEVER THE INPUT: true; the input reads as it did. -/
def fnExactFewestDominatingSpec : ChangeSpec := { name := "fnExactFewestDominating", fn := fun _ => fun
  | [d] => { results := [.lit (.bool true)], args := [d] }
  | _ => none }
def fnExactFewestDominatingRow : OpenClaim := { program := "ytbgkceekkinngaa", sum := "1dbb5ec1e261c2aba4e8100735ec3df22f9d1a1a46bf2956f59aa16bfd6a686a", func := "loop.example/g02081/laws.FnExactFewestDominating", spec := "fnExactFewestDominating", unfollowed := true, recurses := true, apart := false }
def FnExactFewestDominatingSaid : Prop := fnExactFewestDominatingRow.holds Try.pinned (OpenSpec.ofChange fnExactFewestDominatingSpec)

/-- ITS FALSE NEIGHBOUR: 'it returns false'. Refute it at one input. -/
def fnExactFewestDominatingWrong : ChangeSpec := { name := "fnExactFewestDominating", fn := fun _ => fun
  | [d] => { results := [.lit (.bool false)], args := [d] }
  | _ => none }
def FnExactFewestDominatingWrongFalsely : Prop := fnExactFewestDominatingRow.holds Try.pinned (OpenSpec.ofChange fnExactFewestDominatingWrong)

/-- 'laws.FnExactIsPacking': WHATEVER THE INPUT: true; the input reads as it did. -/
def fnExactIsPackingSpec : ChangeSpec := { name := "fnExactIsPacking", fn := fun _ => fun
  | [d1, d2] => { results := [.lit (.bool true)], args := [d1, d2] }
  | _ => none }
def fnExactIsPackingRow : OpenClaim := { program := "ytbgkceekkinngaa", sum := "1dbb5ec1e261c2aba4e8100735ec3df22f9d1a1a46bf2956f59aa16bfd6a686a", func := "loop.example/g02081/laws.FnExactIsPacking", spec := "fnExactIsPacking", unfollowed := true, recurses := true, apart := false }
def FnExactIsPackingSaid : Prop := fnExactIsPackingRow.holds Try.pinned (OpenSpec.ofChange fnExactIsPackingSpec)

/-- ITS FALSE NEIGHBOUR: 'it returns false'. Refute it at one input. -/
def fnExactIsPackingWrong : ChangeSpec := { name := "fnExactIsPacking", fn := fun _ => fun
  | [d1, d2] => { results := [.lit (.bool false)], args := [d1, d2] }
  | _ => none }
def FnExactIsPackingWrongFalsely : Prop := fnExactIsPackingRow.holds Try.pinned (OpenSpec.ofChange fnExactIsPackingWrong)

/-- 'laws.FnExactLargestPacking': WHATEVER THE INPUT: true; the input reads as it did. -/
def fnExactLargestPackingSpec : ChangeSpec := { name := "fnExactLargestPacking", fn := fun _ => fun
  | [d] => { results := [.lit (.bool true)], args := [d] }
  | _ => none }
def fnExactLargestPackingRow : OpenClaim := { program := "ytbgkceekkinngaa", sum := "1dbb5ec1e261c2aba4e8100735ec3df22f9d1a1a46bf2956f59aa16bfd6a686a", func := "loop.example/g02081/laws.FnExactLargestPacking", spec := "fnExactLargestPacking", unfollowed := true, recurses := true, apart := false }
def FnExactLargestPackingSaid : Prop := fnExactLargestPackingRow.holds Try.pinned (OpenSpec.ofChange fnExactLargestPackingSpec)

/-- ITS FALSE NEIGHBOUR: 'it returns false'. Refute it at one input. -/
def fnExactLargestPackingWrong : ChangeSpec := { name := "fnExactLargestPacking", fn := fun _ => fun
  | [d] => { results := [.lit (.bool false)], args := [d] }
  | _ => none }
def FnExactLargestPackingWrongFalsely : Prop := fnExactLargestPackingRow.holds Try.pinned (OpenSpec.ofChange fnExactLargestPackingWrong)

/-- 'laws.FnExactDominationGap': WHATEVER THE INPUT: true; the input reads as it did. -/
def fnExactDominationGapSpec : ChangeSpec := { name := "fnExactDominationGap", fn := fun _ => fun
  | [d] => { results := [.lit (.bool true)], args := [d] }
  | _ => none }
def fnExactDominationGapRow : OpenClaim := { program := "ytbgkceekkinngaa", sum := "1dbb5ec1e261c2aba4e8100735ec3df22f9d1a1a46bf2956f59aa16bfd6a686a", func := "loop.example/g02081/laws.FnExactDominationGap", spec := "fnExactDominationGap", unfollowed := true, recurses := true, apart := false }
def FnExactDominationGapSaid : Prop := fnExactDominationGapRow.holds Try.pinned (OpenSpec.ofChange fnExactDominationGapSpec)

/-- ITS FALSE NEIGHBOUR: 'it returns false'. Refute it at one input. -/
def fnExactDominationGapWrong : ChangeSpec := { name := "fnExactDominationGap", fn := fun _ => fun
  | [d] => { results := [.lit (.bool false)], args := [d] }
  | _ => none }
def FnExactDominationGapWrongFalsely : Prop := fnExactDominationGapRow.holds Try.pinned (OpenSpec.ofChange fnExactDominationGapWrong)

/-- 'laws.FnExactLeastModule': WHATEVER THE INPUT: true; the input reads as it did. -/
def fnExactLeastModuleSpec : ChangeSpec := { name := "fnExactLeastModule", fn := fun _ => fun
  | [d1, d2] => { results := [.lit (.bool true)], args := [d1, d2] }
  | _ => none }
def fnExactLeastModuleRow : OpenClaim := { program := "ytbgkceekkinngaa", sum := "1dbb5ec1e261c2aba4e8100735ec3df22f9d1a1a46bf2956f59aa16bfd6a686a", func := "loop.example/g02081/laws.FnExactLeastModule", spec := "fnExactLeastModule", unfollowed := true, recurses := true, apart := false }
def FnExactLeastModuleSaid : Prop := fnExactLeastModuleRow.holds Try.pinned (OpenSpec.ofChange fnExactLeastModuleSpec)

/-- ITS FALSE NEIGHBOUR: 'it returns false'. Refute it at one input. -/
def fnExactLeastModuleWrong : ChangeSpec := { name := "fnExactLeastModule", fn := fun _ => fun
  | [d1, d2] => { results := [.lit (.bool false)], args := [d1, d2] }
  | _ => none }
def FnExactLeastModuleWrongFalsely : Prop := fnExactLeastModuleRow.holds Try.pinned (OpenSpec.ofChange fnExactLeastModuleWrong)

/-- 'laws.FnExactCoverOf': WHATEVER THE INPUT: true; the input reads as it did. -/
def fnExactCoverOfSpec : ChangeSpec := { name := "fnExactCoverOf", fn := fun _ => fun
  | [d] => { results := [.lit (.bool true)], args := [d] }
  | _ => none }
def fnExactCoverOfRow : OpenClaim := { program := "ytbgkceekkinngaa", sum := "1dbb5ec1e261c2aba4e8100735ec3df22f9d1a1a46bf2956f59aa16bfd6a686a", func := "loop.example/g02081/laws.FnExactCoverOf", spec := "fnExactCoverOf", unfollowed := true, recurses := true, apart := false }
def FnExactCoverOfSaid : Prop := fnExactCoverOfRow.holds Try.pinned (OpenSpec.ofChange fnExactCoverOfSpec)

/-- ITS FALSE NEIGHBOUR: 'it returns false'. Refute it at one input. -/
def fnExactCoverOfWrong : ChangeSpec := { name := "fnExactCoverOf", fn := fun _ => fun
  | [d] => { results := [.lit (.bool false)], args := [d] }
  | _ => none }
def FnExactCoverOfWrongFalsely : Prop := fnExactCoverOfRow.holds Try.pinned (OpenSpec.ofChange fnExactCoverOfWrong)

/-- 'laws.FnExactCutVertices': WHATEVER THE INPUT: true; the input reads as it did. -/
def fnExactCutVerticesSpec : ChangeSpec := { name := "fnExactCutVertices", fn := fun _ => fun
  | [d] => { results := [.lit (.bool true)], args := [d] }
  | _ => none }
def fnExactCutVerticesRow : OpenClaim := { program := "ytbgkceekkinngaa", sum := "1dbb5ec1e261c2aba4e8100735ec3df22f9d1a1a46bf2956f59aa16bfd6a686a", func := "loop.example/g02081/laws.FnExactCutVertices", spec := "fnExactCutVertices", unfollowed := true, recurses := true, apart := false }
def FnExactCutVerticesSaid : Prop := fnExactCutVerticesRow.holds Try.pinned (OpenSpec.ofChange fnExactCutVerticesSpec)

/-- ITS FALSE NEIGHBOUR: 'it returns false'. Refute it at one input. -/
def fnExactCutVerticesWrong : ChangeSpec := { name := "fnExactCutVertices", fn := fun _ => fun
  | [d] => { results := [.lit (.bool false)], args := [d] }
  | _ => none }
def FnExactCutVerticesWrongFalsely : Prop := fnExactCutVerticesRow.holds Try.pinned (OpenSpec.ofChange fnExactCutVerticesWrong)

/-- 'laws.FnExactToughnessWitness': WHATEVER THE INPUT: true; the input reads as it did. -/
def fnExactToughnessWitnessSpec : ChangeSpec := { name := "fnExactToughnessWitness", fn := fun _ => fun
  | [d] => { results := [.lit (.bool true)], args := [d] }
  | _ => none }
def fnExactToughnessWitnessRow : OpenClaim := { program := "ytbgkceekkinngaa", sum := "1dbb5ec1e261c2aba4e8100735ec3df22f9d1a1a46bf2956f59aa16bfd6a686a", func := "loop.example/g02081/laws.FnExactToughnessWitness", spec := "fnExactToughnessWitness", unfollowed := true, recurses := true, apart := false }
def FnExactToughnessWitnessSaid : Prop := fnExactToughnessWitnessRow.holds Try.pinned (OpenSpec.ofChange fnExactToughnessWitnessSpec)

/-- ITS FALSE NEIGHBOUR: 'it returns false'. Refute it at one input. -/
def fnExactToughnessWitnessWrong : ChangeSpec := { name := "fnExactToughnessWitness", fn := fun _ => fun
  | [d] => { results := [.lit (.bool false)], args := [d] }
  | _ => none }
def FnExactToughnessWitnessWrongFalsely : Prop := fnExactToughnessWitnessRow.holds Try.pinned (OpenSpec.ofChange fnExactToughnessWitnessWrong)

/- THE SECOND FORM. 'bulk': how many values and letters a reading holds, each counted each time it is reached (what is shared counts as often as it is met; a slice's spare places count too). A statement '..UptoSaid' is the law's where the arguments, and the package variables that the reading takes, are together of bulk at most 1048576: NARROWER than '..Said'. Prove '..Said' where nothing that the law and all that it calls make is longer than what came in: it says more and counts as full. Else prove '..UptoSaid'. A law counts once. -/
mutual
def uptoBulk {H : Type} : DataW H → Nat
  | .lit (.string bytes) => bytes.length + 1
  | .lit _ => 1
  | .nil => 1
  | .ptr d => uptoBulk d + 1
  | .slice elems spare => uptoBulkAll elems + uptoBulkAll spare + 1
  | .agg parts => uptoBulkAll parts + 1
  | .iface _ d => uptoBulk d + 1
  | .map entries => uptoBulkEntries entries + 1
  | .held _ => 1
def uptoBulkAll {H : Type} : List (DataW H) → Nat
  | [] => 0
  | d :: r => uptoBulk d + uptoBulkAll r
def uptoBulkEntries {H : Type} : List (Lit × DataW H) → Nat
  | [] => 0
  | x :: r => uptoBulkEntry x + uptoBulkEntries r
def uptoBulkEntry {H : Type} : Lit × DataW H → Nat
  | (.string bytes, d) => bytes.length + uptoBulk d + 1
  | (_, d) => uptoBulk d + 1
 end
def uptoSmall : (H : Type) → List (DataW H) → Bool := fun _ ds => decide (uptoBulkAll ds ≤ 1048576)
def OpenSpec.upto (s : _root_.Go.ChangeSpec) : _root_.Go.OpenSpec := { _root_.Go.OpenSpec.ofChange s with cond := some uptoSmall }

/-- 'laws.FnExactSplitOf', WHERE WHAT IT READS IS OF BULK AT MOST 1048576: true; the input reads as it did. -/
def fnExactSplitOfUptoRow : OpenClaim := { program := "ytbgkceekkinngaa", sum := "1dbb5ec1e261c2aba4e8100735ec3df22f9d1a1a46bf2956f59aa16bfd6a686a", func := "loop.example/g02081/laws.FnExactSplitOf", spec := "fnExactSplitOf", unfollowed := true, recurses := true, apart := false, narrowed := true }
def FnExactSplitOfUptoSaid : Prop := fnExactSplitOfUptoRow.holds Try.pinned (OpenSpec.upto fnExactSplitOfSpec)

/-- 'laws.FnExactCountSplits', WHERE WHAT IT READS IS OF BULK AT MOST 1048576: true; the input reads as it did. -/
def fnExactCountSplitsUptoRow : OpenClaim := { program := "ytbgkceekkinngaa", sum := "1dbb5ec1e261c2aba4e8100735ec3df22f9d1a1a46bf2956f59aa16bfd6a686a", func := "loop.example/g02081/laws.FnExactCountSplits", spec := "fnExactCountSplits", unfollowed := true, recurses := true, apart := false, narrowed := true }
def FnExactCountSplitsUptoSaid : Prop := fnExactCountSplitsUptoRow.holds Try.pinned (OpenSpec.upto fnExactCountSplitsSpec)

/-- 'laws.FnExactIsSplit', WHERE WHAT IT READS IS OF BULK AT MOST 1048576: true; the input reads as it did. -/
def fnExactIsSplitUptoRow : OpenClaim := { program := "ytbgkceekkinngaa", sum := "1dbb5ec1e261c2aba4e8100735ec3df22f9d1a1a46bf2956f59aa16bfd6a686a", func := "loop.example/g02081/laws.FnExactIsSplit", spec := "fnExactIsSplit", unfollowed := true, recurses := true, apart := false, narrowed := true }
def FnExactIsSplitUptoSaid : Prop := fnExactIsSplitUptoRow.holds Try.pinned (OpenSpec.upto fnExactIsSplitSpec)

/-- 'laws.FnExactIsDominating', WHERE WHAT IT READS IS OF BULK AT MOST 1048576: true; the input reads as it did. -/
def fnExactIsDominatingUptoRow : OpenClaim := { program := "ytbgkceekkinngaa", sum := "1dbb5ec1e261c2aba4e8100735ec3df22f9d1a1a46bf2956f59aa16bfd6a686a", func := "loop.example/g02081/laws.FnExactIsDominating", spec := "fnExactIsDominating", unfollowed := true, recurses := true, apart := false, narrowed := true }
def FnExactIsDominatingUptoSaid : Prop := fnExactIsDominatingUptoRow.holds Try.pinned (OpenSpec.upto fnExactIsDominatingSpec)

/-- 'laws.FnExactFewestDominating', WHERE WHAT IT READS IS OF BULK AT MOST 1048576: true; the input reads as it did. -/
def fnExactFewestDominatingUptoRow : OpenClaim := { program := "ytbgkceekkinngaa", sum := "1dbb5ec1e261c2aba4e8100735ec3df22f9d1a1a46bf2956f59aa16bfd6a686a", func := "loop.example/g02081/laws.FnExactFewestDominating", spec := "fnExactFewestDominating", unfollowed := true, recurses := true, apart := false, narrowed := true }
def FnExactFewestDominatingUptoSaid : Prop := fnExactFewestDominatingUptoRow.holds Try.pinned (OpenSpec.upto fnExactFewestDominatingSpec)

/-- 'laws.FnExactIsPacking', WHERE WHAT IT READS IS OF BULK AT MOST 1048576: true; the input reads as it did. -/
def fnExactIsPackingUptoRow : OpenClaim := { program := "ytbgkceekkinngaa", sum := "1dbb5ec1e261c2aba4e8100735ec3df22f9d1a1a46bf2956f59aa16bfd6a686a", func := "loop.example/g02081/laws.FnExactIsPacking", spec := "fnExactIsPacking", unfollowed := true, recurses := true, apart := false, narrowed := true }
def FnExactIsPackingUptoSaid : Prop := fnExactIsPackingUptoRow.holds Try.pinned (OpenSpec.upto fnExactIsPackingSpec)

/-- 'laws.FnExactLargestPacking', WHERE WHAT IT READS IS OF BULK AT MOST 1048576: true; the input reads as it did. -/
def fnExactLargestPackingUptoRow : OpenClaim := { program := "ytbgkceekkinngaa", sum := "1dbb5ec1e261c2aba4e8100735ec3df22f9d1a1a46bf2956f59aa16bfd6a686a", func := "loop.example/g02081/laws.FnExactLargestPacking", spec := "fnExactLargestPacking", unfollowed := true, recurses := true, apart := false, narrowed := true }
def FnExactLargestPackingUptoSaid : Prop := fnExactLargestPackingUptoRow.holds Try.pinned (OpenSpec.upto fnExactLargestPackingSpec)

/-- 'laws.FnExactDominationGap', WHERE WHAT IT READS IS OF BULK AT MOST 1048576: true; the input reads as it did. -/
def fnExactDominationGapUptoRow : OpenClaim := { program := "ytbgkceekkinngaa", sum := "1dbb5ec1e261c2aba4e8100735ec3df22f9d1a1a46bf2956f59aa16bfd6a686a", func := "loop.example/g02081/laws.FnExactDominationGap", spec := "fnExactDominationGap", unfollowed := true, recurses := true, apart := false, narrowed := true }
def FnExactDominationGapUptoSaid : Prop := fnExactDominationGapUptoRow.holds Try.pinned (OpenSpec.upto fnExactDominationGapSpec)

/-- 'laws.FnExactLeastModule', WHERE WHAT IT READS IS OF BULK AT MOST 1048576: true; the input reads as it did. -/
def fnExactLeastModuleUptoRow : OpenClaim := { program := "ytbgkceekkinngaa", sum := "1dbb5ec1e261c2aba4e8100735ec3df22f9d1a1a46bf2956f59aa16bfd6a686a", func := "loop.example/g02081/laws.FnExactLeastModule", spec := "fnExactLeastModule", unfollowed := true, recurses := true, apart := false, narrowed := true }
def FnExactLeastModuleUptoSaid : Prop := fnExactLeastModuleUptoRow.holds Try.pinned (OpenSpec.upto fnExactLeastModuleSpec)

/-- 'laws.FnExactCoverOf', WHERE WHAT IT READS IS OF BULK AT MOST 1048576: true; the input reads as it did. -/
def fnExactCoverOfUptoRow : OpenClaim := { program := "ytbgkceekkinngaa", sum := "1dbb5ec1e261c2aba4e8100735ec3df22f9d1a1a46bf2956f59aa16bfd6a686a", func := "loop.example/g02081/laws.FnExactCoverOf", spec := "fnExactCoverOf", unfollowed := true, recurses := true, apart := false, narrowed := true }
def FnExactCoverOfUptoSaid : Prop := fnExactCoverOfUptoRow.holds Try.pinned (OpenSpec.upto fnExactCoverOfSpec)

/-- 'laws.FnExactCutVertices', WHERE WHAT IT READS IS OF BULK AT MOST 1048576: true; the input reads as it did. -/
def fnExactCutVerticesUptoRow : OpenClaim := { program := "ytbgkceekkinngaa", sum := "1dbb5ec1e261c2aba4e8100735ec3df22f9d1a1a46bf2956f59aa16bfd6a686a", func := "loop.example/g02081/laws.FnExactCutVertices", spec := "fnExactCutVertices", unfollowed := true, recurses := true, apart := false, narrowed := true }
def FnExactCutVerticesUptoSaid : Prop := fnExactCutVerticesUptoRow.holds Try.pinned (OpenSpec.upto fnExactCutVerticesSpec)

/-- 'laws.FnExactToughnessWitness', WHERE WHAT IT READS IS OF BULK AT MOST 1048576: true; the input reads as it did. -/
def fnExactToughnessWitnessUptoRow : OpenClaim := { program := "ytbgkceekkinngaa", sum := "1dbb5ec1e261c2aba4e8100735ec3df22f9d1a1a46bf2956f59aa16bfd6a686a", func := "loop.example/g02081/laws.FnExactToughnessWitness", spec := "fnExactToughnessWitness", unfollowed := true, recurses := true, apart := false, narrowed := true }
def FnExactToughnessWitnessUptoSaid : Prop := fnExactToughnessWitnessUptoRow.holds Try.pinned (OpenSpec.upto fnExactToughnessWitnessSpec)

end Rows
end Go.Proofs.Ytbgkceekkinngaa
