/-
  No cell of these rows narrows 'for every input' (looked for: loops, veiled, ifaces, maps, wideKeys, modest, calm, conditions, laid).
  DERIVED. THE GIVEN ROWS OF THIS SEAT. 12 by the template 'for every input the law returns true; each argument reads behind the call as it read before'; 0 by the template 'total and deterministic' (their statements: YtbgkceekkinngabTotals.lean).
  GIVEN WITH THE SEED: the statements are not yours to turn. If you find one false, say at which input.
  Laid BY PROGRAM, IN A SANDBOX (cutbox-rows.mjs): the forced cells as the released guide's own fill.sh prints them over the translation efecde26b47a0db3… (all of the seat's roots in one cut). By AI agents, Wed Nov 11 2026. No macro, syntax, notation, axiom, sorry.
-/
import Derived.Test.YtbgkceekkinngabChecked
import GoSem.Claim
import GoSem.ClaimJoined
import GoSem.ClaimMapViews
import Derived.JoinedTies
import Derived.KernelRfl
namespace Go.Proofs.Ytbgkceekkinngab
/- THE CELL 'sum', in the pinned program and in every row, IS THE sha256 OF THE DUMP (.gsa) THAT YtbgkceekkinngabProg.lean LOADS. Nothing in Lean hashes anything: it is a label: what it is worth is what the hold of that sum in a sandbox is worth. -/
noncomputable def Try.pinned : Pinned := { name := "ytbgkceekkinngab", sum := "efecde26b47a0db3db82ee1537cd6c6a97f5561ac28d76a3bcdc46c2a57e5fa7", checked := Try.checked }
namespace Rows
def none {H : Type} : Left H := { results := [], args := [] }

/-- 'laws.FnExactIsCliqueCover': WHATEVER THE INPUT: true; the input reads as it did. -/
def fnExactIsCliqueCoverSpec : ChangeSpec := { name := "fnExactIsCliqueCover", fn := fun _ => fun
  | [d1, d2] => { results := [.lit (.bool true)], args := [d1, d2] }
  | _ => none }
def fnExactIsCliqueCoverRow : OpenClaim := { program := "ytbgkceekkinngab", sum := "efecde26b47a0db3db82ee1537cd6c6a97f5561ac28d76a3bcdc46c2a57e5fa7", func := "loop.example/g02081/laws.FnExactIsCliqueCover", spec := "fnExactIsCliqueCover", unfollowed := true, recurses := true, apart := false }
def FnExactIsCliqueCoverSaid : Prop := fnExactIsCliqueCoverRow.holds Try.pinned (OpenSpec.ofChange fnExactIsCliqueCoverSpec)

/-- ITS FALSE NEIGHBOUR: 'it returns false'. Refute it at one input. -/
def fnExactIsCliqueCoverWrong : ChangeSpec := { name := "fnExactIsCliqueCover", fn := fun _ => fun
  | [d1, d2] => { results := [.lit (.bool false)], args := [d1, d2] }
  | _ => none }
def FnExactIsCliqueCoverWrongFalsely : Prop := fnExactIsCliqueCoverRow.holds Try.pinned (OpenSpec.ofChange fnExactIsCliqueCoverWrong)

/-- 'laws.FnExactIsWay': WHATEVER THE INPUT: true; the input reads as it did. -/
def fnExactIsWaySpec : ChangeSpec := { name := "fnExactIsWay", fn := fun _ => fun
  | [d1, d2] => { results := [.lit (.bool true)], args := [d1, d2] }
  | _ => none }
def fnExactIsWayRow : OpenClaim := { program := "ytbgkceekkinngab", sum := "efecde26b47a0db3db82ee1537cd6c6a97f5561ac28d76a3bcdc46c2a57e5fa7", func := "loop.example/g02081/laws.FnExactIsWay", spec := "fnExactIsWay", apart := false }
def FnExactIsWaySaid : Prop := fnExactIsWayRow.holds Try.pinned (OpenSpec.ofChange fnExactIsWaySpec)

/-- ITS FALSE NEIGHBOUR: 'it returns false'. Refute it at one input. -/
def fnExactIsWayWrong : ChangeSpec := { name := "fnExactIsWay", fn := fun _ => fun
  | [d1, d2] => { results := [.lit (.bool false)], args := [d1, d2] }
  | _ => none }
def FnExactIsWayWrongFalsely : Prop := fnExactIsWayRow.holds Try.pinned (OpenSpec.ofChange fnExactIsWayWrong)

/-- 'laws.FnExactIsSun': WHATEVER THE INPUT: true; the input reads as it did. -/
def fnExactIsSunSpec : ChangeSpec := { name := "fnExactIsSun", fn := fun _ => fun
  | [d1, d2] => { results := [.lit (.bool true)], args := [d1, d2] }
  | _ => none }
def fnExactIsSunRow : OpenClaim := { program := "ytbgkceekkinngab", sum := "efecde26b47a0db3db82ee1537cd6c6a97f5561ac28d76a3bcdc46c2a57e5fa7", func := "loop.example/g02081/laws.FnExactIsSun", spec := "fnExactIsSun", unfollowed := true, recurses := true, apart := false }
def FnExactIsSunSaid : Prop := fnExactIsSunRow.holds Try.pinned (OpenSpec.ofChange fnExactIsSunSpec)

/-- ITS FALSE NEIGHBOUR: 'it returns false'. Refute it at one input. -/
def fnExactIsSunWrong : ChangeSpec := { name := "fnExactIsSun", fn := fun _ => fun
  | [d1, d2] => { results := [.lit (.bool false)], args := [d1, d2] }
  | _ => none }
def FnExactIsSunWrongFalsely : Prop := fnExactIsSunRow.holds Try.pinned (OpenSpec.ofChange fnExactIsSunWrong)

/-- 'laws.FnExactIsPerfectObstacle': WHATEVER THE INPUT: true; the input reads as it did. -/
def fnExactIsPerfectObstacleSpec : ChangeSpec := { name := "fnExactIsPerfectObstacle", fn := fun _ => fun
  | [d1, d2] => { results := [.lit (.bool true)], args := [d1, d2] }
  | _ => none }
def fnExactIsPerfectObstacleRow : OpenClaim := { program := "ytbgkceekkinngab", sum := "efecde26b47a0db3db82ee1537cd6c6a97f5561ac28d76a3bcdc46c2a57e5fa7", func := "loop.example/g02081/laws.FnExactIsPerfectObstacle", spec := "fnExactIsPerfectObstacle", unfollowed := true, recurses := true, apart := false }
def FnExactIsPerfectObstacleSaid : Prop := fnExactIsPerfectObstacleRow.holds Try.pinned (OpenSpec.ofChange fnExactIsPerfectObstacleSpec)

/-- ITS FALSE NEIGHBOUR: 'it returns false'. Refute it at one input. -/
def fnExactIsPerfectObstacleWrong : ChangeSpec := { name := "fnExactIsPerfectObstacle", fn := fun _ => fun
  | [d1, d2] => { results := [.lit (.bool false)], args := [d1, d2] }
  | _ => none }
def FnExactIsPerfectObstacleWrongFalsely : Prop := fnExactIsPerfectObstacleRow.holds Try.pinned (OpenSpec.ofChange fnExactIsPerfectObstacleWrong)

/-- 'laws.FnExactKindOf': WHATEVER THE INPUT: true; the input reads as it did. -/
def fnExactKindOfSpec : ChangeSpec := { name := "fnExactKindOf", fn := fun _ => fun
  | [d1, d2] => { results := [.lit (.bool true)], args := [d1, d2] }
  | _ => none }
def fnExactKindOfRow : OpenClaim := { program := "ytbgkceekkinngab", sum := "efecde26b47a0db3db82ee1537cd6c6a97f5561ac28d76a3bcdc46c2a57e5fa7", func := "loop.example/g02081/laws.FnExactKindOf", spec := "fnExactKindOf", unfollowed := true, recurses := true, apart := false }
def FnExactKindOfSaid : Prop := fnExactKindOfRow.holds Try.pinned (OpenSpec.ofChange fnExactKindOfSpec)

/-- ITS FALSE NEIGHBOUR: 'it returns false'. Refute it at one input. -/
def fnExactKindOfWrong : ChangeSpec := { name := "fnExactKindOf", fn := fun _ => fun
  | [d1, d2] => { results := [.lit (.bool false)], args := [d1, d2] }
  | _ => none }
def FnExactKindOfWrongFalsely : Prop := fnExactKindOfRow.holds Try.pinned (OpenSpec.ofChange fnExactKindOfWrong)

/-- 'laws.FnExactChildrenOf': WHATEVER THE INPUT: true; the input reads as it did. -/
def fnExactChildrenOfSpec : ChangeSpec := { name := "fnExactChildrenOf", fn := fun _ => fun
  | [d1, d2] => { results := [.lit (.bool true)], args := [d1, d2] }
  | _ => none }
def fnExactChildrenOfRow : OpenClaim := { program := "ytbgkceekkinngab", sum := "efecde26b47a0db3db82ee1537cd6c6a97f5561ac28d76a3bcdc46c2a57e5fa7", func := "loop.example/g02081/laws.FnExactChildrenOf", spec := "fnExactChildrenOf", apart := false }
def FnExactChildrenOfSaid : Prop := fnExactChildrenOfRow.holds Try.pinned (OpenSpec.ofChange fnExactChildrenOfSpec)

/-- ITS FALSE NEIGHBOUR: 'it returns false'. Refute it at one input. -/
def fnExactChildrenOfWrong : ChangeSpec := { name := "fnExactChildrenOf", fn := fun _ => fun
  | [d1, d2] => { results := [.lit (.bool false)], args := [d1, d2] }
  | _ => none }
def FnExactChildrenOfWrongFalsely : Prop := fnExactChildrenOfRow.holds Try.pinned (OpenSpec.ofChange fnExactChildrenOfWrong)

/-- 'laws.FnExactEqualTrees': WHATEVER THE INPUT: true; the input reads as it did. -/
def fnExactEqualTreesSpec : ChangeSpec := { name := "fnExactEqualTrees", fn := fun _ => fun
  | [d1, d2] => { results := [.lit (.bool true)], args := [d1, d2] }
  | _ => none }
def fnExactEqualTreesRow : OpenClaim := { program := "ytbgkceekkinngab", sum := "efecde26b47a0db3db82ee1537cd6c6a97f5561ac28d76a3bcdc46c2a57e5fa7", func := "loop.example/g02081/laws.FnExactEqualTrees", spec := "fnExactEqualTrees", apart := false }
def FnExactEqualTreesSaid : Prop := fnExactEqualTreesRow.holds Try.pinned (OpenSpec.ofChange fnExactEqualTreesSpec)

/-- ITS FALSE NEIGHBOUR: 'it returns false'. Refute it at one input. -/
def fnExactEqualTreesWrong : ChangeSpec := { name := "fnExactEqualTrees", fn := fun _ => fun
  | [d1, d2] => { results := [.lit (.bool false)], args := [d1, d2] }
  | _ => none }
def FnExactEqualTreesWrongFalsely : Prop := fnExactEqualTreesRow.holds Try.pinned (OpenSpec.ofChange fnExactEqualTreesWrong)

/-- 'laws.FnExactEqualModuleTrees': WHATEVER THE INPUT: true; the input reads as it did. -/
def fnExactEqualModuleTreesSpec : ChangeSpec := { name := "fnExactEqualModuleTrees", fn := fun _ => fun
  | [d1, d2] => { results := [.lit (.bool true)], args := [d1, d2] }
  | _ => none }
def fnExactEqualModuleTreesRow : OpenClaim := { program := "ytbgkceekkinngab", sum := "efecde26b47a0db3db82ee1537cd6c6a97f5561ac28d76a3bcdc46c2a57e5fa7", func := "loop.example/g02081/laws.FnExactEqualModuleTrees", spec := "fnExactEqualModuleTrees", apart := false }
def FnExactEqualModuleTreesSaid : Prop := fnExactEqualModuleTreesRow.holds Try.pinned (OpenSpec.ofChange fnExactEqualModuleTreesSpec)

/-- ITS FALSE NEIGHBOUR: 'it returns false'. Refute it at one input. -/
def fnExactEqualModuleTreesWrong : ChangeSpec := { name := "fnExactEqualModuleTrees", fn := fun _ => fun
  | [d1, d2] => { results := [.lit (.bool false)], args := [d1, d2] }
  | _ => none }
def FnExactEqualModuleTreesWrongFalsely : Prop := fnExactEqualModuleTreesRow.holds Try.pinned (OpenSpec.ofChange fnExactEqualModuleTreesWrong)

/-- 'laws.FnExactIsArcs': WHATEVER THE INPUT: true; the input reads as it did. -/
def fnExactIsArcsSpec : ChangeSpec := { name := "fnExactIsArcs", fn := fun _ => fun
  | [d] => { results := [.lit (.bool true)], args := [d] }
  | _ => none }
def fnExactIsArcsRow : OpenClaim := { program := "ytbgkceekkinngab", sum := "efecde26b47a0db3db82ee1537cd6c6a97f5561ac28d76a3bcdc46c2a57e5fa7", func := "loop.example/g02081/laws.FnExactIsArcs", spec := "fnExactIsArcs", apart := false }
def FnExactIsArcsSaid : Prop := fnExactIsArcsRow.holds Try.pinned (OpenSpec.ofChange fnExactIsArcsSpec)

/-- ITS FALSE NEIGHBOUR: 'it returns false'. Refute it at one input. -/
def fnExactIsArcsWrong : ChangeSpec := { name := "fnExactIsArcs", fn := fun _ => fun
  | [d] => { results := [.lit (.bool false)], args := [d] }
  | _ => none }
def FnExactIsArcsWrongFalsely : Prop := fnExactIsArcsRow.holds Try.pinned (OpenSpec.ofChange fnExactIsArcsWrong)

/-- 'laws.FnExactClaimWord': WHATEVER THE INPUT: true; the input reads as it did. -/
def fnExactClaimWordSpec : ChangeSpec := { name := "fnExactClaimWord", fn := fun _ => fun
  | [d] => { results := [.lit (.bool true)], args := [d] }
  | _ => none }
def fnExactClaimWordRow : OpenClaim := { program := "ytbgkceekkinngab", sum := "efecde26b47a0db3db82ee1537cd6c6a97f5561ac28d76a3bcdc46c2a57e5fa7", func := "loop.example/g02081/laws.FnExactClaimWord", spec := "fnExactClaimWord", apart := false }
def FnExactClaimWordSaid : Prop := fnExactClaimWordRow.holds Try.pinned (OpenSpec.ofChange fnExactClaimWordSpec)

/-- ITS FALSE NEIGHBOUR: 'it returns false'. Refute it at one input. -/
def fnExactClaimWordWrong : ChangeSpec := { name := "fnExactClaimWord", fn := fun _ => fun
  | [d] => { results := [.lit (.bool false)], args := [d] }
  | _ => none }
def FnExactClaimWordWrongFalsely : Prop := fnExactClaimWordRow.holds Try.pinned (OpenSpec.ofChange fnExactClaimWordWrong)

/-- 'laws.FnExactIsModel': WHATEVER THE INPUT: true; the input reads as it did. -/
def fnExactIsModelSpec : ChangeSpec := { name := "fnExactIsModel", fn := fun _ => fun
  | [d] => { results := [.lit (.bool true)], args := [d] }
  | _ => none }
def fnExactIsModelRow : OpenClaim := { program := "ytbgkceekkinngab", sum := "efecde26b47a0db3db82ee1537cd6c6a97f5561ac28d76a3bcdc46c2a57e5fa7", func := "loop.example/g02081/laws.FnExactIsModel", spec := "fnExactIsModel", apart := false }
def FnExactIsModelSaid : Prop := fnExactIsModelRow.holds Try.pinned (OpenSpec.ofChange fnExactIsModelSpec)

/-- ITS FALSE NEIGHBOUR: 'it returns false'. Refute it at one input. -/
def fnExactIsModelWrong : ChangeSpec := { name := "fnExactIsModel", fn := fun _ => fun
  | [d] => { results := [.lit (.bool false)], args := [d] }
  | _ => none }
def FnExactIsModelWrongFalsely : Prop := fnExactIsModelRow.holds Try.pinned (OpenSpec.ofChange fnExactIsModelWrong)

/-- 'laws.FnExactIsMatching': WHATEVER THE INPUT: true; the input reads as it did. -/
def fnExactIsMatchingSpec : ChangeSpec := { name := "fnExactIsMatching", fn := fun _ => fun
  | [d1, d2] => { results := [.lit (.bool true)], args := [d1, d2] }
  | _ => none }
def fnExactIsMatchingRow : OpenClaim := { program := "ytbgkceekkinngab", sum := "efecde26b47a0db3db82ee1537cd6c6a97f5561ac28d76a3bcdc46c2a57e5fa7", func := "loop.example/g02081/laws.FnExactIsMatching", spec := "fnExactIsMatching", apart := false }
def FnExactIsMatchingSaid : Prop := fnExactIsMatchingRow.holds Try.pinned (OpenSpec.ofChange fnExactIsMatchingSpec)

/-- ITS FALSE NEIGHBOUR: 'it returns false'. Refute it at one input. -/
def fnExactIsMatchingWrong : ChangeSpec := { name := "fnExactIsMatching", fn := fun _ => fun
  | [d1, d2] => { results := [.lit (.bool false)], args := [d1, d2] }
  | _ => none }
def FnExactIsMatchingWrongFalsely : Prop := fnExactIsMatchingRow.holds Try.pinned (OpenSpec.ofChange fnExactIsMatchingWrong)

/- THE SECOND FORM. 'bulk': how many values and letters a reading holds, each counted each time it is reached (what is shared counts as often as it is met; a slice's spare places count too). A statement '..UptoSaid' is the law's where the arguments, and the package variables that the reading takes, are together of bulk at most 1048576: NARROWER than '..Said'. Prove '..Said' where nothing that the law and all that it calls make is longer than what came in: it says more and counts as full. Else prove '..UptoSaid'. A law counts once. -/
mutual
def uptoBulk {H : Type} : DataW H → Nat
  | .lit (.string bytes) => bytes.length + 1
  | .lit _ => 1
  | .nil => 1
  | .ptr d => uptoBulk d + 1
  | .slice elems spare => uptoBulkAll elems + uptoBulkAll spare + 1
  | .agg parts => uptoBulkAll parts + 1
  | .iface _ d => uptoBulk d + 1
  | .map entries => uptoBulkEntries entries + 1
  | .held _ => 1
def uptoBulkAll {H : Type} : List (DataW H) → Nat
  | [] => 0
  | d :: r => uptoBulk d + uptoBulkAll r
def uptoBulkEntries {H : Type} : List (Lit × DataW H) → Nat
  | [] => 0
  | x :: r => uptoBulkEntry x + uptoBulkEntries r
def uptoBulkEntry {H : Type} : Lit × DataW H → Nat
  | (.string bytes, d) => bytes.length + uptoBulk d + 1
  | (_, d) => uptoBulk d + 1
 end
def uptoSmall : (H : Type) → List (DataW H) → Bool := fun _ ds => decide (uptoBulkAll ds ≤ 1048576)
def OpenSpec.upto (s : _root_.Go.ChangeSpec) : _root_.Go.OpenSpec := { _root_.Go.OpenSpec.ofChange s with cond := some uptoSmall }

/-- 'laws.FnExactIsCliqueCover', WHERE WHAT IT READS IS OF BULK AT MOST 1048576: true; the input reads as it did. -/
def fnExactIsCliqueCoverUptoRow : OpenClaim := { program := "ytbgkceekkinngab", sum := "efecde26b47a0db3db82ee1537cd6c6a97f5561ac28d76a3bcdc46c2a57e5fa7", func := "loop.example/g02081/laws.FnExactIsCliqueCover", spec := "fnExactIsCliqueCover", unfollowed := true, recurses := true, apart := false, narrowed := true }
def FnExactIsCliqueCoverUptoSaid : Prop := fnExactIsCliqueCoverUptoRow.holds Try.pinned (OpenSpec.upto fnExactIsCliqueCoverSpec)

/-- 'laws.FnExactIsWay', WHERE WHAT IT READS IS OF BULK AT MOST 1048576: true; the input reads as it did. -/
def fnExactIsWayUptoRow : OpenClaim := { program := "ytbgkceekkinngab", sum := "efecde26b47a0db3db82ee1537cd6c6a97f5561ac28d76a3bcdc46c2a57e5fa7", func := "loop.example/g02081/laws.FnExactIsWay", spec := "fnExactIsWay", apart := false, narrowed := true }
def FnExactIsWayUptoSaid : Prop := fnExactIsWayUptoRow.holds Try.pinned (OpenSpec.upto fnExactIsWaySpec)

/-- 'laws.FnExactIsSun', WHERE WHAT IT READS IS OF BULK AT MOST 1048576: true; the input reads as it did. -/
def fnExactIsSunUptoRow : OpenClaim := { program := "ytbgkceekkinngab", sum := "efecde26b47a0db3db82ee1537cd6c6a97f5561ac28d76a3bcdc46c2a57e5fa7", func := "loop.example/g02081/laws.FnExactIsSun", spec := "fnExactIsSun", unfollowed := true, recurses := true, apart := false, narrowed := true }
def FnExactIsSunUptoSaid : Prop := fnExactIsSunUptoRow.holds Try.pinned (OpenSpec.upto fnExactIsSunSpec)

/-- 'laws.FnExactIsPerfectObstacle', WHERE WHAT IT READS IS OF BULK AT MOST 1048576: true; the input reads as it did. -/
def fnExactIsPerfectObstacleUptoRow : OpenClaim := { program := "ytbgkceekkinngab", sum := "efecde26b47a0db3db82ee1537cd6c6a97f5561ac28d76a3bcdc46c2a57e5fa7", func := "loop.example/g02081/laws.FnExactIsPerfectObstacle", spec := "fnExactIsPerfectObstacle", unfollowed := true, recurses := true, apart := false, narrowed := true }
def FnExactIsPerfectObstacleUptoSaid : Prop := fnExactIsPerfectObstacleUptoRow.holds Try.pinned (OpenSpec.upto fnExactIsPerfectObstacleSpec)

/-- 'laws.FnExactKindOf', WHERE WHAT IT READS IS OF BULK AT MOST 1048576: true; the input reads as it did. -/
def fnExactKindOfUptoRow : OpenClaim := { program := "ytbgkceekkinngab", sum := "efecde26b47a0db3db82ee1537cd6c6a97f5561ac28d76a3bcdc46c2a57e5fa7", func := "loop.example/g02081/laws.FnExactKindOf", spec := "fnExactKindOf", unfollowed := true, recurses := true, apart := false, narrowed := true }
def FnExactKindOfUptoSaid : Prop := fnExactKindOfUptoRow.holds Try.pinned (OpenSpec.upto fnExactKindOfSpec)

/-- 'laws.FnExactChildrenOf', WHERE WHAT IT READS IS OF BULK AT MOST 1048576: true; the input reads as it did. -/
def fnExactChildrenOfUptoRow : OpenClaim := { program := "ytbgkceekkinngab", sum := "efecde26b47a0db3db82ee1537cd6c6a97f5561ac28d76a3bcdc46c2a57e5fa7", func := "loop.example/g02081/laws.FnExactChildrenOf", spec := "fnExactChildrenOf", apart := false, narrowed := true }
def FnExactChildrenOfUptoSaid : Prop := fnExactChildrenOfUptoRow.holds Try.pinned (OpenSpec.upto fnExactChildrenOfSpec)

/-- 'laws.FnExactEqualTrees', WHERE WHAT IT READS IS OF BULK AT MOST 1048576: true; the input reads as it did. -/
def fnExactEqualTreesUptoRow : OpenClaim := { program := "ytbgkceekkinngab", sum := "efecde26b47a0db3db82ee1537cd6c6a97f5561ac28d76a3bcdc46c2a57e5fa7", func := "loop.example/g02081/laws.FnExactEqualTrees", spec := "fnExactEqualTrees", apart := false, narrowed := true }
def FnExactEqualTreesUptoSaid : Prop := fnExactEqualTreesUptoRow.holds Try.pinned (OpenSpec.upto fnExactEqualTreesSpec)

/-- 'laws.FnExactEqualModuleTrees', WHERE WHAT IT READS IS OF BULK AT MOST 1048576: true; the input reads as it did. -/
def fnExactEqualModuleTreesUptoRow : OpenClaim := { program := "ytbgkceekkinngab", sum := "efecde26b47a0db3db82ee1537cd6c6a97f5561ac28d76a3bcdc46c2a57e5fa7", func := "loop.example/g02081/laws.FnExactEqualModuleTrees", spec := "fnExactEqualModuleTrees", apart := false, narrowed := true }
def FnExactEqualModuleTreesUptoSaid : Prop := fnExactEqualModuleTreesUptoRow.holds Try.pinned (OpenSpec.upto fnExactEqualModuleTreesSpec)

/-- 'laws.FnExactIsArcs', WHERE WHAT IT READS IS OF BULK AT MOST 1048576: true; the input reads as it did. -/
def fnExactIsArcsUptoRow : OpenClaim := { program := "ytbgkceekkinngab", sum := "efecde26b47a0db3db82ee1537cd6c6a97f5561ac28d76a3bcdc46c2a57e5fa7", func := "loop.example/g02081/laws.FnExactIsArcs", spec := "fnExactIsArcs", apart := false, narrowed := true }
def FnExactIsArcsUptoSaid : Prop := fnExactIsArcsUptoRow.holds Try.pinned (OpenSpec.upto fnExactIsArcsSpec)

/-- 'laws.FnExactClaimWord', WHERE WHAT IT READS IS OF BULK AT MOST 1048576: true; the input reads as it did. -/
def fnExactClaimWordUptoRow : OpenClaim := { program := "ytbgkceekkinngab", sum := "efecde26b47a0db3db82ee1537cd6c6a97f5561ac28d76a3bcdc46c2a57e5fa7", func := "loop.example/g02081/laws.FnExactClaimWord", spec := "fnExactClaimWord", apart := false, narrowed := true }
def FnExactClaimWordUptoSaid : Prop := fnExactClaimWordUptoRow.holds Try.pinned (OpenSpec.upto fnExactClaimWordSpec)

/-- 'laws.FnExactIsModel', WHERE WHAT IT READS IS OF BULK AT MOST 1048576: true; the input reads as it did. -/
def fnExactIsModelUptoRow : OpenClaim := { program := "ytbgkceekkinngab", sum := "efecde26b47a0db3db82ee1537cd6c6a97f5561ac28d76a3bcdc46c2a57e5fa7", func := "loop.example/g02081/laws.FnExactIsModel", spec := "fnExactIsModel", apart := false, narrowed := true }
def FnExactIsModelUptoSaid : Prop := fnExactIsModelUptoRow.holds Try.pinned (OpenSpec.upto fnExactIsModelSpec)

/-- 'laws.FnExactIsMatching', WHERE WHAT IT READS IS OF BULK AT MOST 1048576: true; the input reads as it did. -/
def fnExactIsMatchingUptoRow : OpenClaim := { program := "ytbgkceekkinngab", sum := "efecde26b47a0db3db82ee1537cd6c6a97f5561ac28d76a3bcdc46c2a57e5fa7", func := "loop.example/g02081/laws.FnExactIsMatching", spec := "fnExactIsMatching", apart := false, narrowed := true }
def FnExactIsMatchingUptoSaid : Prop := fnExactIsMatchingUptoRow.holds Try.pinned (OpenSpec.upto fnExactIsMatchingSpec)

end Rows
end Go.Proofs.Ytbgkceekkinngab
