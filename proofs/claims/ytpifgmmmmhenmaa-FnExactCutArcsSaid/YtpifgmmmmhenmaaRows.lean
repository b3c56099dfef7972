/-
  No cell of these rows narrows 'for every input' (looked for: loops, veiled, ifaces, maps, wideKeys, modest, calm, conditions, laid).
  DERIVED. THE GIVEN ROWS OF THIS SEAT. 12 by the template 'for every input the law returns true; each argument reads behind the call as it read before'; 0 by the template 'total and deterministic' (their statements: YtpifgmmmmhenmaaTotals.lean).
  GIVEN WITH THE SEED: the statements are not yours to turn. If you find one false, say at which input.
  Laid BY PROGRAM, IN A SANDBOX (cutbox-rows.mjs): the forced cells as the released guide's own fill.sh prints them over the translation 24b8b3de9ee9a88d… (all of the seat's roots in one cut). By AI agents, Wed Nov 11 2026. No macro, syntax, notation, axiom, sorry.
-/
import Derived.Test.YtpifgmmmmhenmaaChecked
import GoSem.Claim
import GoSem.ClaimJoined
import GoSem.ClaimMapViews
import Derived.JoinedTies
import Derived.KernelRfl
namespace Go.Proofs.Ytpifgmmmmhenmaa
/- THE CELL 'sum', in the pinned program and in every row, IS THE sha256 OF THE DUMP (.gsa) THAT YtpifgmmmmhenmaaProg.lean LOADS. Nothing in Lean hashes anything: it is a label: what it is worth is what the hold of that sum in a sandbox is worth. -/
noncomputable def Try.pinned : Pinned := { name := "ytpifgmmmmhenmaa", sum := "24b8b3de9ee9a88dcdb77d290875f9d74f9d11004102f5738f116d3e29cb80ed", checked := Try.checked }
namespace Rows
def none {H : Type} : Left H := { results := [], args := [] }

/-- 'laws.FnExactClassNames': WHATEVER THE INPUT: true; the input reads as it did. -/
def fnExactClassNamesSpec : ChangeSpec := { name := "fnExactClassNames", fn := fun _ => fun
  | [] => { results := [.lit (.bool true)], args := [] }
  | _ => none }
def fnExactClassNamesRow : OpenClaim := { program := "ytpifgmmmmhenmaa", sum := "24b8b3de9ee9a88dcdb77d290875f9d74f9d11004102f5738f116d3e29cb80ed", func := "loop.example/g02081/laws.FnExactClassNames", spec := "fnExactClassNames", apart := false }
def FnExactClassNamesSaid : Prop := fnExactClassNamesRow.holds Try.pinned (OpenSpec.ofChange fnExactClassNamesSpec)

/-- ITS FALSE NEIGHBOUR: 'it returns false'. Refute it at one input. -/
def fnExactClassNamesWrong : ChangeSpec := { name := "fnExactClassNames", fn := fun _ => fun
  | [] => { results := [.lit (.bool false)], args := [] }
  | _ => none }
def FnExactClassNamesWrongFalsely : Prop := fnExactClassNamesRow.holds Try.pinned (OpenSpec.ofChange fnExactClassNamesWrong)

/-- 'laws.FnExactClaimOfPacking': WHATEVER THE INPUT: true; the input reads as it did. -/
def fnExactClaimOfPackingSpec : ChangeSpec := { name := "fnExactClaimOfPacking", fn := fun _ => fun
  | [d] => { results := [.lit (.bool true)], args := [d] }
  | _ => none }
def fnExactClaimOfPackingRow : OpenClaim := { program := "ytpifgmmmmhenmaa", sum := "24b8b3de9ee9a88dcdb77d290875f9d74f9d11004102f5738f116d3e29cb80ed", func := "loop.example/g02081/laws.FnExactClaimOfPacking", spec := "fnExactClaimOfPacking", unfollowed := true, recurses := true, apart := false }
def FnExactClaimOfPackingSaid : Prop := fnExactClaimOfPackingRow.holds Try.pinned (OpenSpec.ofChange fnExactClaimOfPackingSpec)

/-- ITS FALSE NEIGHBOUR: 'it returns false'. Refute it at one input. -/
def fnExactClaimOfPackingWrong : ChangeSpec := { name := "fnExactClaimOfPacking", fn := fun _ => fun
  | [d] => { results := [.lit (.bool false)], args := [d] }
  | _ => none }
def FnExactClaimOfPackingWrongFalsely : Prop := fnExactClaimOfPackingRow.holds Try.pinned (OpenSpec.ofChange fnExactClaimOfPackingWrong)

/-- 'laws.FnExactEqualClaims': WHATEVER THE INPUT: true; the input reads as it did. -/
def fnExactEqualClaimsSpec : ChangeSpec := { name := "fnExactEqualClaims", fn := fun _ => fun
  | [d1, d2] => { results := [.lit (.bool true)], args := [d1, d2] }
  | _ => none }
def fnExactEqualClaimsRow : OpenClaim := { program := "ytpifgmmmmhenmaa", sum := "24b8b3de9ee9a88dcdb77d290875f9d74f9d11004102f5738f116d3e29cb80ed", func := "loop.example/g02081/laws.FnExactEqualClaims", spec := "fnExactEqualClaims", unfollowed := true, recurses := true, apart := false }
def FnExactEqualClaimsSaid : Prop := fnExactEqualClaimsRow.holds Try.pinned (OpenSpec.ofChange fnExactEqualClaimsSpec)

/-- ITS FALSE NEIGHBOUR: 'it returns false'. Refute it at one input. -/
def fnExactEqualClaimsWrong : ChangeSpec := { name := "fnExactEqualClaims", fn := fun _ => fun
  | [d1, d2] => { results := [.lit (.bool false)], args := [d1, d2] }
  | _ => none }
def FnExactEqualClaimsWrongFalsely : Prop := fnExactEqualClaimsRow.holds Try.pinned (OpenSpec.ofChange fnExactEqualClaimsWrong)

/-- 'laws.FnExactCutArcs': WHATEVER THE INPUT: true; the input reads as it did. -/
def fnExactCutArcsSpec : ChangeSpec := { name := "fnExactCutArcs", fn := fun _ => fun
  | [d1, d2] => { results := [.lit (.bool true)], args := [d1, d2] }
  | _ => none }
def fnExactCutArcsRow : OpenClaim := { program := "ytpifgmmmmhenmaa", sum := "24b8b3de9ee9a88dcdb77d290875f9d74f9d11004102f5738f116d3e29cb80ed", func := "loop.example/g02081/laws.FnExactCutArcs", spec := "fnExactCutArcs", apart := false }
def FnExactCutArcsSaid : Prop := fnExactCutArcsRow.holds Try.pinned (OpenSpec.ofChange fnExactCutArcsSpec)

/-- ITS FALSE NEIGHBOUR: 'it returns false'. Refute it at one input. -/
def fnExactCutArcsWrong : ChangeSpec := { name := "fnExactCutArcs", fn := fun _ => fun
  | [d1, d2] => { results := [.lit (.bool false)], args := [d1, d2] }
  | _ => none }
def FnExactCutArcsWrongFalsely : Prop := fnExactCutArcsRow.holds Try.pinned (OpenSpec.ofChange fnExactCutArcsWrong)

/-- 'laws.FnExactIsMatching': WHATEVER THE INPUT: true; the input reads as it did. -/
def fnExactIsMatchingSpec : ChangeSpec := { name := "fnExactIsMatching", fn := fun _ => fun
  | [d1, d2] => { results := [.lit (.bool true)], args := [d1, d2] }
  | _ => none }
def fnExactIsMatchingRow : OpenClaim := { program := "ytpifgmmmmhenmaa", sum := "24b8b3de9ee9a88dcdb77d290875f9d74f9d11004102f5738f116d3e29cb80ed", func := "loop.example/g02081/laws.FnExactIsMatching", spec := "fnExactIsMatching", apart := false }
def FnExactIsMatchingSaid : Prop := fnExactIsMatchingRow.holds Try.pinned (OpenSpec.ofChange fnExactIsMatchingSpec)

/-- ITS FALSE NEIGHBOUR: 'it returns false'. Refute it at one input. -/
def fnExactIsMatchingWrong : ChangeSpec := { name := "fnExactIsMatching", fn := fun _ => fun
  | [d1, d2] => { results := [.lit (.bool false)], args := [d1, d2] }
  | _ => none }
def FnExactIsMatchingWrongFalsely : Prop := fnExactIsMatchingRow.holds Try.pinned (OpenSpec.ofChange fnExactIsMatchingWrong)

/-- 'laws.FnExactGraphOfThreshold': WHATEVER THE INPUT: true; the input reads as it did. -/
def fnExactGraphOfThresholdSpec : ChangeSpec := { name := "fnExactGraphOfThreshold", fn := fun _ => fun
  | [d1, d2] => { results := [.lit (.bool true)], args := [d1, d2] }
  | _ => none }
def fnExactGraphOfThresholdRow : OpenClaim := { program := "ytpifgmmmmhenmaa", sum := "24b8b3de9ee9a88dcdb77d290875f9d74f9d11004102f5738f116d3e29cb80ed", func := "loop.example/g02081/laws.FnExactGraphOfThreshold", spec := "fnExactGraphOfThreshold", unfollowed := true, recurses := true, apart := false }
def FnExactGraphOfThresholdSaid : Prop := fnExactGraphOfThresholdRow.holds Try.pinned (OpenSpec.ofChange fnExactGraphOfThresholdSpec)

/-- ITS FALSE NEIGHBOUR: 'it returns false'. Refute it at one input. -/
def fnExactGraphOfThresholdWrong : ChangeSpec := { name := "fnExactGraphOfThreshold", fn := fun _ => fun
  | [d1, d2] => { results := [.lit (.bool false)], args := [d1, d2] }
  | _ => none }
def FnExactGraphOfThresholdWrongFalsely : Prop := fnExactGraphOfThresholdRow.holds Try.pinned (OpenSpec.ofChange fnExactGraphOfThresholdWrong)

/-- 'laws.FnExactStabbingPoints': WHATEVER THE INPUT: true; the input reads as it did. -/
def fnExactStabbingPointsSpec : ChangeSpec := { name := "fnExactStabbingPoints", fn := fun _ => fun
  | [d] => { results := [.lit (.bool true)], args := [d] }
  | _ => none }
def fnExactStabbingPointsRow : OpenClaim := { program := "ytpifgmmmmhenmaa", sum := "24b8b3de9ee9a88dcdb77d290875f9d74f9d11004102f5738f116d3e29cb80ed", func := "loop.example/g02081/laws.FnExactStabbingPoints", spec := "fnExactStabbingPoints", unfollowed := true, recurses := true, apart := false }
def FnExactStabbingPointsSaid : Prop := fnExactStabbingPointsRow.holds Try.pinned (OpenSpec.ofChange fnExactStabbingPointsSpec)

/-- ITS FALSE NEIGHBOUR: 'it returns false'. Refute it at one input. -/
def fnExactStabbingPointsWrong : ChangeSpec := { name := "fnExactStabbingPoints", fn := fun _ => fun
  | [d] => { results := [.lit (.bool false)], args := [d] }
  | _ => none }
def FnExactStabbingPointsWrongFalsely : Prop := fnExactStabbingPointsRow.holds Try.pinned (OpenSpec.ofChange fnExactStabbingPointsWrong)

/-- 'laws.FnExactUndoEdits': WHATEVER THE INPUT: true; the input reads as it did. -/
def fnExactUndoEditsSpec : ChangeSpec := { name := "fnExactUndoEdits", fn := fun _ => fun
  | [d] => { results := [.lit (.bool true)], args := [d] }
  | _ => none }
def fnExactUndoEditsRow : OpenClaim := { program := "ytpifgmmmmhenmaa", sum := "24b8b3de9ee9a88dcdb77d290875f9d74f9d11004102f5738f116d3e29cb80ed", func := "loop.example/g02081/laws.FnExactUndoEdits", spec := "fnExactUndoEdits", unfollowed := true, recurses := true, apart := false }
def FnExactUndoEditsSaid : Prop := fnExactUndoEditsRow.holds Try.pinned (OpenSpec.ofChange fnExactUndoEditsSpec)

/-- ITS FALSE NEIGHBOUR: 'it returns false'. Refute it at one input. -/
def fnExactUndoEditsWrong : ChangeSpec := { name := "fnExactUndoEdits", fn := fun _ => fun
  | [d] => { results := [.lit (.bool false)], args := [d] }
  | _ => none }
def FnExactUndoEditsWrongFalsely : Prop := fnExactUndoEditsRow.holds Try.pinned (OpenSpec.ofChange fnExactUndoEditsWrong)

/-- 'laws.FnExactEditsBetween': WHATEVER THE INPUT: true; the input reads as it did. -/
def fnExactEditsBetweenSpec : ChangeSpec := { name := "fnExactEditsBetween", fn := fun _ => fun
  | [d1, d2] => { results := [.lit (.bool true)], args := [d1, d2] }
  | _ => none }
def fnExactEditsBetweenRow : OpenClaim := { program := "ytpifgmmmmhenmaa", sum := "24b8b3de9ee9a88dcdb77d290875f9d74f9d11004102f5738f116d3e29cb80ed", func := "loop.example/g02081/laws.FnExactEditsBetween", spec := "fnExactEditsBetween", apart := false }
def FnExactEditsBetweenSaid : Prop := fnExactEditsBetweenRow.holds Try.pinned (OpenSpec.ofChange fnExactEditsBetweenSpec)

/-- ITS FALSE NEIGHBOUR: 'it returns false'. Refute it at one input. -/
def fnExactEditsBetweenWrong : ChangeSpec := { name := "fnExactEditsBetween", fn := fun _ => fun
  | [d1, d2] => { results := [.lit (.bool false)], args := [d1, d2] }
  | _ => none }
def FnExactEditsBetweenWrongFalsely : Prop := fnExactEditsBetweenRow.holds Try.pinned (OpenSpec.ofChange fnExactEditsBetweenWrong)

/-- 'laws.FnExactIsSimple': WHATEVER THE INPUT: true; the input reads as it did. -/
def fnExactIsSimpleSpec : ChangeSpec := { name := "fnExactIsSimple", fn := fun _ => fun
  | [d1, d2, d3] => { results := [.lit (.bool true)], args := [d1, d2, d3] }
  | _ => none }
def fnExactIsSimpleRow : OpenClaim := { program := "ytpifgmmmmhenmaa", sum := "24b8b3de9ee9a88dcdb77d290875f9d74f9d11004102f5738f116d3e29cb80ed", func := "loop.example/g02081/laws.FnExactIsSimple", spec := "fnExactIsSimple", unfollowed := true, recurses := true, apart := false }
def FnExactIsSimpleSaid : Prop := fnExactIsSimpleRow.holds Try.pinned (OpenSpec.ofChange fnExactIsSimpleSpec)

/-- ITS FALSE NEIGHBOUR: 'it returns false'. Refute it at one input. -/
def fnExactIsSimpleWrong : ChangeSpec := { name := "fnExactIsSimple", fn := fun _ => fun
  | [d1, d2, d3] => { results := [.lit (.bool false)], args := [d1, d2, d3] }
  | _ => none }
def FnExactIsSimpleWrongFalsely : Prop := fnExactIsSimpleRow.holds Try.pinned (OpenSpec.ofChange fnExactIsSimpleWrong)

/-- 'laws.FnExactSimpleOrder': WHATEVER THE INPUT: true; the input reads as it did. -/
def fnExactSimpleOrderSpec : ChangeSpec := { name := "fnExactSimpleOrder", fn := fun _ => fun
  | [d] => { results := [.lit (.bool true)], args := [d] }
  | _ => none }
def fnExactSimpleOrderRow : OpenClaim := { program := "ytpifgmmmmhenmaa", sum := "24b8b3de9ee9a88dcdb77d290875f9d74f9d11004102f5738f116d3e29cb80ed", func := "loop.example/g02081/laws.FnExactSimpleOrder", spec := "fnExactSimpleOrder", unfollowed := true, recurses := true, apart := false }
def FnExactSimpleOrderSaid : Prop := fnExactSimpleOrderRow.holds Try.pinned (OpenSpec.ofChange fnExactSimpleOrderSpec)

/-- ITS FALSE NEIGHBOUR: 'it returns false'. Refute it at one input. -/
def fnExactSimpleOrderWrong : ChangeSpec := { name := "fnExactSimpleOrder", fn := fun _ => fun
  | [d] => { results := [.lit (.bool false)], args := [d] }
  | _ => none }
def FnExactSimpleOrderWrongFalsely : Prop := fnExactSimpleOrderRow.holds Try.pinned (OpenSpec.ofChange fnExactSimpleOrderWrong)

/-- 'laws.FnExactIsStronglyChordal': WHATEVER THE INPUT: true; the input reads as it did. -/
def fnExactIsStronglyChordalSpec : ChangeSpec := { name := "fnExactIsStronglyChordal", fn := fun _ => fun
  | [d] => { results := [.lit (.bool true)], args := [d] }
  | _ => none }
def fnExactIsStronglyChordalRow : OpenClaim := { program := "ytpifgmmmmhenmaa", sum := "24b8b3de9ee9a88dcdb77d290875f9d74f9d11004102f5738f116d3e29cb80ed", func := "loop.example/g02081/laws.FnExactIsStronglyChordal", spec := "fnExactIsStronglyChordal", unfollowed := true, recurses := true, apart := false }
def FnExactIsStronglyChordalSaid : Prop := fnExactIsStronglyChordalRow.holds Try.pinned (OpenSpec.ofChange fnExactIsStronglyChordalSpec)

/-- ITS FALSE NEIGHBOUR: 'it returns false'. Refute it at one input. -/
def fnExactIsStronglyChordalWrong : ChangeSpec := { name := "fnExactIsStronglyChordal", fn := fun _ => fun
  | [d] => { results := [.lit (.bool false)], args := [d] }
  | _ => none }
def FnExactIsStronglyChordalWrongFalsely : Prop := fnExactIsStronglyChordalRow.holds Try.pinned (OpenSpec.ofChange fnExactIsStronglyChordalWrong)

/- THE SECOND FORM. 'bulk': how many values and letters a reading holds, each counted each time it is reached (what is shared counts as often as it is met; a slice's spare places count too). A statement '..UptoSaid' is the law's where the arguments, and the package variables that the reading takes, are together of bulk at most 1048576: NARROWER than '..Said'. Prove '..Said' where nothing that the law and all that it calls make is longer than what came in: it says more and counts as full. Else prove '..UptoSaid'. A law counts once. -/
mutual
def uptoBulk {H : Type} : DataW H → Nat
  | .lit (.string bytes) => bytes.length + 1
  | .lit _ => 1
  | .nil => 1
  | .ptr d => uptoBulk d + 1
  | .slice elems spare => uptoBulkAll elems + uptoBulkAll spare + 1
  | .agg parts => uptoBulkAll parts + 1
  | .iface _ d => uptoBulk d + 1
  | .map entries => uptoBulkEntries entries + 1
  | .held _ => 1
def uptoBulkAll {H : Type} : List (DataW H) → Nat
  | [] => 0
  | d :: r => uptoBulk d + uptoBulkAll r
def uptoBulkEntries {H : Type} : List (Lit × DataW H) → Nat
  | [] => 0
  | x :: r => uptoBulkEntry x + uptoBulkEntries r
def uptoBulkEntry {H : Type} : Lit × DataW H → Nat
  | (.string bytes, d) => bytes.length + uptoBulk d + 1
  | (_, d) => uptoBulk d + 1
 end
def uptoSmall : (H : Type) → List (DataW H) → Bool := fun _ ds => decide (uptoBulkAll ds ≤ 1048576)
def OpenSpec.upto (s : _root_.Go.ChangeSpec) : _root_.Go.OpenSpec := { _root_.Go.OpenSpec.ofChange s with cond := some uptoSmall }

/-- 'laws.FnExactClassNames', WHERE WHAT IT READS IS OF BULK AT MOST 1048576: true; the input reads as it did. -/
def fnExactClassNamesUptoRow : OpenClaim := { program := "ytpifgmmmmhenmaa", sum := "24b8b3de9ee9a88dcdb77d290875f9d74f9d11004102f5738f116d3e29cb80ed", func := "loop.example/g02081/laws.FnExactClassNames", spec := "fnExactClassNames", apart := false, narrowed := true }
def FnExactClassNamesUptoSaid : Prop := fnExactClassNamesUptoRow.holds Try.pinned (OpenSpec.upto fnExactClassNamesSpec)

/-- 'laws.FnExactClaimOfPacking', WHERE WHAT IT READS IS OF BULK AT MOST 1048576: true; the input reads as it did. -/
def fnExactClaimOfPackingUptoRow : OpenClaim := { program := "ytpifgmmmmhenmaa", sum := "24b8b3de9ee9a88dcdb77d290875f9d74f9d11004102f5738f116d3e29cb80ed", func := "loop.example/g02081/laws.FnExactClaimOfPacking", spec := "fnExactClaimOfPacking", unfollowed := true, recurses := true, apart := false, narrowed := true }
def FnExactClaimOfPackingUptoSaid : Prop := fnExactClaimOfPackingUptoRow.holds Try.pinned (OpenSpec.upto fnExactClaimOfPackingSpec)

/-- 'laws.FnExactEqualClaims', WHERE WHAT IT READS IS OF BULK AT MOST 1048576: true; the input reads as it did. -/
def fnExactEqualClaimsUptoRow : OpenClaim := { program := "ytpifgmmmmhenmaa", sum := "24b8b3de9ee9a88dcdb77d290875f9d74f9d11004102f5738f116d3e29cb80ed", func := "loop.example/g02081/laws.FnExactEqualClaims", spec := "fnExactEqualClaims", unfollowed := true, recurses := true, apart := false, narrowed := true }
def FnExactEqualClaimsUptoSaid : Prop := fnExactEqualClaimsUptoRow.holds Try.pinned (OpenSpec.upto fnExactEqualClaimsSpec)

/-- 'laws.FnExactCutArcs', WHERE WHAT IT READS IS OF BULK AT MOST 1048576: true; the input reads as it did. -/
def fnExactCutArcsUptoRow : OpenClaim := { program := "ytpifgmmmmhenmaa", sum := "24b8b3de9ee9a88dcdb77d290875f9d74f9d11004102f5738f116d3e29cb80ed", func := "loop.example/g02081/laws.FnExactCutArcs", spec := "fnExactCutArcs", apart := false, narrowed := true }
def FnExactCutArcsUptoSaid : Prop := fnExactCutArcsUptoRow.holds Try.pinned (OpenSpec.upto fnExactCutArcsSpec)

/-- 'laws.FnExactIsMatching', WHERE WHAT IT READS IS OF BULK AT MOST 1048576: true; the input reads as it did. -/
def fnExactIsMatchingUptoRow : OpenClaim := { program := "ytpifgmmmmhenmaa", sum := "24b8b3de9ee9a88dcdb77d290875f9d74f9d11004102f5738f116d3e29cb80ed", func := "loop.example/g02081/laws.FnExactIsMatching", spec := "fnExactIsMatching", apart := false, narrowed := true }
def FnExactIsMatchingUptoSaid : Prop := fnExactIsMatchingUptoRow.holds Try.pinned (OpenSpec.upto fnExactIsMatchingSpec)

/-- 'laws.FnExactGraphOfThreshold', WHERE WHAT IT READS IS OF BULK AT MOST 1048576: true; the input reads as it did. -/
def fnExactGraphOfThresholdUptoRow : OpenClaim := { program := "ytpifgmmmmhenmaa", sum := "24b8b3de9ee9a88dcdb77d290875f9d74f9d11004102f5738f116d3e29cb80ed", func := "loop.example/g02081/laws.FnExactGraphOfThreshold", spec := "fnExactGraphOfThreshold", unfollowed := true, recurses := true, apart := false, narrowed := true }
def FnExactGraphOfThresholdUptoSaid : Prop := fnExactGraphOfThresholdUptoRow.holds Try.pinned (OpenSpec.upto fnExactGraphOfThresholdSpec)

/-- 'laws.FnExactStabbingPoints', WHERE WHAT IT READS IS OF BULK AT MOST 1048576: true; the input reads as it did. -/
def fnExactStabbingPointsUptoRow : OpenClaim := { program := "ytpifgmmmmhenmaa", sum := "24b8b3de9ee9a88dcdb77d290875f9d74f9d11004102f5738f116d3e29cb80ed", func := "loop.example/g02081/laws.FnExactStabbingPoints", spec := "fnExactStabbingPoints", unfollowed := true, recurses := true, apart := false, narrowed := true }
def FnExactStabbingPointsUptoSaid : Prop := fnExactStabbingPointsUptoRow.holds Try.pinned (OpenSpec.upto fnExactStabbingPointsSpec)

/-- 'laws.FnExactUndoEdits', WHERE WHAT IT READS IS OF BULK AT MOST 1048576: true; the input reads as it did. -/
def fnExactUndoEditsUptoRow : OpenClaim := { program := "ytpifgmmmmhenmaa", sum := "24b8b3de9ee9a88dcdb77d290875f9d74f9d11004102f5738f116d3e29cb80ed", func := "loop.example/g02081/laws.FnExactUndoEdits", spec := "fnExactUndoEdits", unfollowed := true, recurses := true, apart := false, narrowed := true }
def FnExactUndoEditsUptoSaid : Prop := fnExactUndoEditsUptoRow.holds Try.pinned (OpenSpec.upto fnExactUndoEditsSpec)

/-- 'laws.FnExactEditsBetween', WHERE WHAT IT READS IS OF BULK AT MOST 1048576: true; the input reads as it did. -/
def fnExactEditsBetweenUptoRow : OpenClaim := { program := "ytpifgmmmmhenmaa", sum := "24b8b3de9ee9a88dcdb77d290875f9d74f9d11004102f5738f116d3e29cb80ed", func := "loop.example/g02081/laws.FnExactEditsBetween", spec := "fnExactEditsBetween", apart := false, narrowed := true }
def FnExactEditsBetweenUptoSaid : Prop := fnExactEditsBetweenUptoRow.holds Try.pinned (OpenSpec.upto fnExactEditsBetweenSpec)

/-- 'laws.FnExactIsSimple', WHERE WHAT IT READS IS OF BULK AT MOST 1048576: true; the input reads as it did. -/
def fnExactIsSimpleUptoRow : OpenClaim := { program := "ytpifgmmmmhenmaa", sum := "24b8b3de9ee9a88dcdb77d290875f9d74f9d11004102f5738f116d3e29cb80ed", func := "loop.example/g02081/laws.FnExactIsSimple", spec := "fnExactIsSimple", unfollowed := true, recurses := true, apart := false, narrowed := true }
def FnExactIsSimpleUptoSaid : Prop := fnExactIsSimpleUptoRow.holds Try.pinned (OpenSpec.upto fnExactIsSimpleSpec)

/-- 'laws.FnExactSimpleOrder', WHERE WHAT IT READS IS OF BULK AT MOST 1048576: true; the input reads as it did. -/
def fnExactSimpleOrderUptoRow : OpenClaim := { program := "ytpifgmmmmhenmaa", sum := "24b8b3de9ee9a88dcdb77d290875f9d74f9d11004102f5738f116d3e29cb80ed", func := "loop.example/g02081/laws.FnExactSimpleOrder", spec := "fnExactSimpleOrder", unfollowed := true, recurses := true, apart := false, narrowed := true }
def FnExactSimpleOrderUptoSaid : Prop := fnExactSimpleOrderUptoRow.holds Try.pinned (OpenSpec.upto fnExactSimpleOrderSpec)

/-- 'laws.FnExactIsStronglyChordal', WHERE WHAT IT READS IS OF BULK AT MOST 1048576: true; the input reads as it did. -/
def fnExactIsStronglyChordalUptoRow : OpenClaim := { program := "ytpifgmmmmhenmaa", sum := "24b8b3de9ee9a88dcdb77d290875f9d74f9d11004102f5738f116d3e29cb80ed", func := "loop.example/g02081/laws.FnExactIsStronglyChordal", spec := "fnExactIsStronglyChordal", unfollowed := true, recurses := true, apart := false, narrowed := true }
def FnExactIsStronglyChordalUptoSaid : Prop := fnExactIsStronglyChordalUptoRow.holds Try.pinned (OpenSpec.upto fnExactIsStronglyChordalSpec)

end Rows
end Go.Proofs.Ytpifgmmmmhenmaa
