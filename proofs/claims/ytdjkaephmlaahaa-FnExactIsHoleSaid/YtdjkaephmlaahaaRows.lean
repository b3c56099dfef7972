/-
  No cell of these rows narrows 'for every input' (looked for: loops, veiled, ifaces, maps, wideKeys, modest, calm, conditions, laid).
  DERIVED. THE GIVEN ROWS OF THIS SEAT. 12 by the template 'for every input the law returns true; each argument reads behind the call as it read before'; 0 by the template 'total and deterministic' (their statements: YtdjkaephmlaahaaTotals.lean).
  GIVEN WITH THE SEED: the statements are not yours to turn. If you find one false, say at which input.
  Laid BY PROGRAM, IN A SANDBOX (cutbox-rows.mjs): the forced cells as the released guide's own fill.sh prints them over the translation a0aec6748ed5a55f… (all of the seat's roots in one cut). By AI agents, Wed Nov 11 2026. No macro, syntax, notation, axiom, sorry.
-/
import Derived.Test.YtdjkaephmlaahaaChecked
import GoSem.Claim
import GoSem.ClaimJoined
import GoSem.ClaimMapViews
import Derived.JoinedTies
import Derived.KernelRfl
namespace Go.Proofs.Ytdjkaephmlaahaa
/- THE CELL 'sum', in the pinned program and in every row, IS THE sha256 OF THE DUMP (.gsa) THAT YtdjkaephmlaahaaProg.lean LOADS. Nothing in Lean hashes anything: it is a label: what it is worth is what the hold of that sum in a sandbox is worth. -/
noncomputable def Try.pinned : Pinned := { name := "ytdjkaephmlaahaa", sum := "a0aec6748ed5a55f3103c15ec6515f5e2f3e8182d6faac7ec4e95e0e7ca4997f", checked := Try.checked }
namespace Rows
def none {H : Type} : Left H := { results := [], args := [] }

/-- 'laws.FnExactIsInducedPath': WHATEVER THE INPUT: true; the input reads as it did. -/
def fnExactIsInducedPathSpec : ChangeSpec := { name := "fnExactIsInducedPath", fn := fun _ => fun
  | [d1, d2] => { results := [.lit (.bool true)], args := [d1, d2] }
  | _ => none }
def fnExactIsInducedPathRow : OpenClaim := { program := "ytdjkaephmlaahaa", sum := "a0aec6748ed5a55f3103c15ec6515f5e2f3e8182d6faac7ec4e95e0e7ca4997f", func := "loop.example/g02081/laws.FnExactIsInducedPath", spec := "fnExactIsInducedPath", unfollowed := true, recurses := true, apart := false }
def FnExactIsInducedPathSaid : Prop := fnExactIsInducedPathRow.holds Try.pinned (OpenSpec.ofChange fnExactIsInducedPathSpec)

/-- ITS FALSE NEIGHBOUR: 'it returns false'. Refute it at one input. -/
def fnExactIsInducedPathWrong : ChangeSpec := { name := "fnExactIsInducedPath", fn := fun _ => fun
  | [d1, d2] => { results := [.lit (.bool false)], args := [d1, d2] }
  | _ => none }
def FnExactIsInducedPathWrongFalsely : Prop := fnExactIsInducedPathRow.holds Try.pinned (OpenSpec.ofChange fnExactIsInducedPathWrong)

/-- 'laws.FnExactIsHole': WHATEVER THE INPUT: true; the input reads as it did. -/
def fnExactIsHoleSpec : ChangeSpec := { name := "fnExactIsHole", fn := fun _ => fun
  | [d1, d2] => { results := [.lit (.bool true)], args := [d1, d2] }
  | _ => none }
def fnExactIsHoleRow : OpenClaim := { program := "ytdjkaephmlaahaa", sum := "a0aec6748ed5a55f3103c15ec6515f5e2f3e8182d6faac7ec4e95e0e7ca4997f", func := "loop.example/g02081/laws.FnExactIsHole", spec := "fnExactIsHole", unfollowed := true, recurses := true, apart := false }
def FnExactIsHoleSaid : Prop := fnExactIsHoleRow.holds Try.pinned (OpenSpec.ofChange fnExactIsHoleSpec)

/-- ITS FALSE NEIGHBOUR: 'it returns false'. Refute it at one input. -/
def fnExactIsHoleWrong : ChangeSpec := { name := "fnExactIsHole", fn := fun _ => fun
  | [d1, d2] => { results := [.lit (.bool false)], args := [d1, d2] }
  | _ => none }
def FnExactIsHoleWrongFalsely : Prop := fnExactIsHoleRow.holds Try.pinned (OpenSpec.ofChange fnExactIsHoleWrong)

/-- 'laws.FnExactIsClaw': WHATEVER THE INPUT: true; the input reads as it did. -/
def fnExactIsClawSpec : ChangeSpec := { name := "fnExactIsClaw", fn := fun _ => fun
  | [d1, d2] => { results := [.lit (.bool true)], args := [d1, d2] }
  | _ => none }
def fnExactIsClawRow : OpenClaim := { program := "ytdjkaephmlaahaa", sum := "a0aec6748ed5a55f3103c15ec6515f5e2f3e8182d6faac7ec4e95e0e7ca4997f", func := "loop.example/g02081/laws.FnExactIsClaw", spec := "fnExactIsClaw", unfollowed := true, recurses := true, apart := false }
def FnExactIsClawSaid : Prop := fnExactIsClawRow.holds Try.pinned (OpenSpec.ofChange fnExactIsClawSpec)

/-- ITS FALSE NEIGHBOUR: 'it returns false'. Refute it at one input. -/
def fnExactIsClawWrong : ChangeSpec := { name := "fnExactIsClaw", fn := fun _ => fun
  | [d1, d2] => { results := [.lit (.bool false)], args := [d1, d2] }
  | _ => none }
def FnExactIsClawWrongFalsely : Prop := fnExactIsClawRow.holds Try.pinned (OpenSpec.ofChange fnExactIsClawWrong)

/-- 'laws.FnExactIsTwoEdges': WHATEVER THE INPUT: true; the input reads as it did. -/
def fnExactIsTwoEdgesSpec : ChangeSpec := { name := "fnExactIsTwoEdges", fn := fun _ => fun
  | [d1, d2] => { results := [.lit (.bool true)], args := [d1, d2] }
  | _ => none }
def fnExactIsTwoEdgesRow : OpenClaim := { program := "ytdjkaephmlaahaa", sum := "a0aec6748ed5a55f3103c15ec6515f5e2f3e8182d6faac7ec4e95e0e7ca4997f", func := "loop.example/g02081/laws.FnExactIsTwoEdges", spec := "fnExactIsTwoEdges", unfollowed := true, recurses := true, apart := false }
def FnExactIsTwoEdgesSaid : Prop := fnExactIsTwoEdgesRow.holds Try.pinned (OpenSpec.ofChange fnExactIsTwoEdgesSpec)

/-- ITS FALSE NEIGHBOUR: 'it returns false'. Refute it at one input. -/
def fnExactIsTwoEdgesWrong : ChangeSpec := { name := "fnExactIsTwoEdges", fn := fun _ => fun
  | [d1, d2] => { results := [.lit (.bool false)], args := [d1, d2] }
  | _ => none }
def FnExactIsTwoEdgesWrongFalsely : Prop := fnExactIsTwoEdgesRow.holds Try.pinned (OpenSpec.ofChange fnExactIsTwoEdgesWrong)

/-- 'laws.FnExactCanonicalCycle': WHATEVER THE INPUT: true; the input reads as it did. -/
def fnExactCanonicalCycleSpec : ChangeSpec := { name := "fnExactCanonicalCycle", fn := fun _ => fun
  | [d] => { results := [.lit (.bool true)], args := [d] }
  | _ => none }
def fnExactCanonicalCycleRow : OpenClaim := { program := "ytdjkaephmlaahaa", sum := "a0aec6748ed5a55f3103c15ec6515f5e2f3e8182d6faac7ec4e95e0e7ca4997f", func := "loop.example/g02081/laws.FnExactCanonicalCycle", spec := "fnExactCanonicalCycle", apart := false }
def FnExactCanonicalCycleSaid : Prop := fnExactCanonicalCycleRow.holds Try.pinned (OpenSpec.ofChange fnExactCanonicalCycleSpec)

/-- ITS FALSE NEIGHBOUR: 'it returns false'. Refute it at one input. -/
def fnExactCanonicalCycleWrong : ChangeSpec := { name := "fnExactCanonicalCycle", fn := fun _ => fun
  | [d] => { results := [.lit (.bool false)], args := [d] }
  | _ => none }
def FnExactCanonicalCycleWrongFalsely : Prop := fnExactCanonicalCycleRow.holds Try.pinned (OpenSpec.ofChange fnExactCanonicalCycleWrong)

/-- 'laws.FnExactFindInducedPath': WHATEVER THE INPUT: true; the input reads as it did. -/
def fnExactFindInducedPathSpec : ChangeSpec := { name := "fnExactFindInducedPath", fn := fun _ => fun
  | [d1, d2] => { results := [.lit (.bool true)], args := [d1, d2] }
  | _ => none }
def fnExactFindInducedPathRow : OpenClaim := { program := "ytdjkaephmlaahaa", sum := "a0aec6748ed5a55f3103c15ec6515f5e2f3e8182d6faac7ec4e95e0e7ca4997f", func := "loop.example/g02081/laws.FnExactFindInducedPath", spec := "fnExactFindInducedPath", unfollowed := true, recurses := true, apart := false }
def FnExactFindInducedPathSaid : Prop := fnExactFindInducedPathRow.holds Try.pinned (OpenSpec.ofChange fnExactFindInducedPathSpec)

/-- ITS FALSE NEIGHBOUR: 'it returns false'. Refute it at one input. -/
def fnExactFindInducedPathWrong : ChangeSpec := { name := "fnExactFindInducedPath", fn := fun _ => fun
  | [d1, d2] => { results := [.lit (.bool false)], args := [d1, d2] }
  | _ => none }
def FnExactFindInducedPathWrongFalsely : Prop := fnExactFindInducedPathRow.holds Try.pinned (OpenSpec.ofChange fnExactFindInducedPathWrong)

/-- 'laws.FnExactFindHole': WHATEVER THE INPUT: true; the input reads as it did. -/
def fnExactFindHoleSpec : ChangeSpec := { name := "fnExactFindHole", fn := fun _ => fun
  | [d] => { results := [.lit (.bool true)], args := [d] }
  | _ => none }
def fnExactFindHoleRow : OpenClaim := { program := "ytdjkaephmlaahaa", sum := "a0aec6748ed5a55f3103c15ec6515f5e2f3e8182d6faac7ec4e95e0e7ca4997f", func := "loop.example/g02081/laws.FnExactFindHole", spec := "fnExactFindHole", unfollowed := true, recurses := true, apart := false }
def FnExactFindHoleSaid : Prop := fnExactFindHoleRow.holds Try.pinned (OpenSpec.ofChange fnExactFindHoleSpec)

/-- ITS FALSE NEIGHBOUR: 'it returns false'. Refute it at one input. -/
def fnExactFindHoleWrong : ChangeSpec := { name := "fnExactFindHole", fn := fun _ => fun
  | [d] => { results := [.lit (.bool false)], args := [d] }
  | _ => none }
def FnExactFindHoleWrongFalsely : Prop := fnExactFindHoleRow.holds Try.pinned (OpenSpec.ofChange fnExactFindHoleWrong)

/-- 'laws.FnExactFindTwoEdges': WHATEVER THE INPUT: true; the input reads as it did. -/
def fnExactFindTwoEdgesSpec : ChangeSpec := { name := "fnExactFindTwoEdges", fn := fun _ => fun
  | [d] => { results := [.lit (.bool true)], args := [d] }
  | _ => none }
def fnExactFindTwoEdgesRow : OpenClaim := { program := "ytdjkaephmlaahaa", sum := "a0aec6748ed5a55f3103c15ec6515f5e2f3e8182d6faac7ec4e95e0e7ca4997f", func := "loop.example/g02081/laws.FnExactFindTwoEdges", spec := "fnExactFindTwoEdges", unfollowed := true, recurses := true, apart := false }
def FnExactFindTwoEdgesSaid : Prop := fnExactFindTwoEdgesRow.holds Try.pinned (OpenSpec.ofChange fnExactFindTwoEdgesSpec)

/-- ITS FALSE NEIGHBOUR: 'it returns false'. Refute it at one input. -/
def fnExactFindTwoEdgesWrong : ChangeSpec := { name := "fnExactFindTwoEdges", fn := fun _ => fun
  | [d] => { results := [.lit (.bool false)], args := [d] }
  | _ => none }
def FnExactFindTwoEdgesWrongFalsely : Prop := fnExactFindTwoEdgesRow.holds Try.pinned (OpenSpec.ofChange fnExactFindTwoEdgesWrong)

/-- 'laws.FnExactFindClaw': WHATEVER THE INPUT: true; the input reads as it did. -/
def fnExactFindClawSpec : ChangeSpec := { name := "fnExactFindClaw", fn := fun _ => fun
  | [d] => { results := [.lit (.bool true)], args := [d] }
  | _ => none }
def fnExactFindClawRow : OpenClaim := { program := "ytdjkaephmlaahaa", sum := "a0aec6748ed5a55f3103c15ec6515f5e2f3e8182d6faac7ec4e95e0e7ca4997f", func := "loop.example/g02081/laws.FnExactFindClaw", spec := "fnExactFindClaw", unfollowed := true, recurses := true, apart := false }
def FnExactFindClawSaid : Prop := fnExactFindClawRow.holds Try.pinned (OpenSpec.ofChange fnExactFindClawSpec)

/-- ITS FALSE NEIGHBOUR: 'it returns false'. Refute it at one input. -/
def fnExactFindClawWrong : ChangeSpec := { name := "fnExactFindClaw", fn := fun _ => fun
  | [d] => { results := [.lit (.bool false)], args := [d] }
  | _ => none }
def FnExactFindClawWrongFalsely : Prop := fnExactFindClawRow.holds Try.pinned (OpenSpec.ofChange fnExactFindClawWrong)

/-- 'laws.FnExactIsOrder': WHATEVER THE INPUT: true; the input reads as it did. -/
def fnExactIsOrderSpec : ChangeSpec := { name := "fnExactIsOrder", fn := fun _ => fun
  | [d1, d2] => { results := [.lit (.bool true)], args := [d1, d2] }
  | _ => none }
def fnExactIsOrderRow : OpenClaim := { program := "ytdjkaephmlaahaa", sum := "a0aec6748ed5a55f3103c15ec6515f5e2f3e8182d6faac7ec4e95e0e7ca4997f", func := "loop.example/g02081/laws.FnExactIsOrder", spec := "fnExactIsOrder", apart := false }
def FnExactIsOrderSaid : Prop := fnExactIsOrderRow.holds Try.pinned (OpenSpec.ofChange fnExactIsOrderSpec)

/-- ITS FALSE NEIGHBOUR: 'it returns false'. Refute it at one input. -/
def fnExactIsOrderWrong : ChangeSpec := { name := "fnExactIsOrder", fn := fun _ => fun
  | [d1, d2] => { results := [.lit (.bool false)], args := [d1, d2] }
  | _ => none }
def FnExactIsOrderWrongFalsely : Prop := fnExactIsOrderRow.holds Try.pinned (OpenSpec.ofChange fnExactIsOrderWrong)

/-- 'laws.FnExactIsConnected': WHATEVER THE INPUT: true; the input reads as it did. -/
def fnExactIsConnectedSpec : ChangeSpec := { name := "fnExactIsConnected", fn := fun _ => fun
  | [d] => { results := [.lit (.bool true)], args := [d] }
  | _ => none }
def fnExactIsConnectedRow : OpenClaim := { program := "ytdjkaephmlaahaa", sum := "a0aec6748ed5a55f3103c15ec6515f5e2f3e8182d6faac7ec4e95e0e7ca4997f", func := "loop.example/g02081/laws.FnExactIsConnected", spec := "fnExactIsConnected", unfollowed := true, recurses := true, apart := false }
def FnExactIsConnectedSaid : Prop := fnExactIsConnectedRow.holds Try.pinned (OpenSpec.ofChange fnExactIsConnectedSpec)

/-- ITS FALSE NEIGHBOUR: 'it returns false'. Refute it at one input. -/
def fnExactIsConnectedWrong : ChangeSpec := { name := "fnExactIsConnected", fn := fun _ => fun
  | [d] => { results := [.lit (.bool false)], args := [d] }
  | _ => none }
def FnExactIsConnectedWrongFalsely : Prop := fnExactIsConnectedRow.holds Try.pinned (OpenSpec.ofChange fnExactIsConnectedWrong)

/-- 'laws.FnExactDistanceOf': WHATEVER THE INPUT: true; the input reads as it did. -/
def fnExactDistanceOfSpec : ChangeSpec := { name := "fnExactDistanceOf", fn := fun _ => fun
  | [d1, d2, d3] => { results := [.lit (.bool true)], args := [d1, d2, d3] }
  | _ => none }
def fnExactDistanceOfRow : OpenClaim := { program := "ytdjkaephmlaahaa", sum := "a0aec6748ed5a55f3103c15ec6515f5e2f3e8182d6faac7ec4e95e0e7ca4997f", func := "loop.example/g02081/laws.FnExactDistanceOf", spec := "fnExactDistanceOf", unfollowed := true, recurses := true, apart := false }
def FnExactDistanceOfSaid : Prop := fnExactDistanceOfRow.holds Try.pinned (OpenSpec.ofChange fnExactDistanceOfSpec)

/-- ITS FALSE NEIGHBOUR: 'it returns false'. Refute it at one input. -/
def fnExactDistanceOfWrong : ChangeSpec := { name := "fnExactDistanceOf", fn := fun _ => fun
  | [d1, d2, d3] => { results := [.lit (.bool false)], args := [d1, d2, d3] }
  | _ => none }
def FnExactDistanceOfWrongFalsely : Prop := fnExactDistanceOfRow.holds Try.pinned (OpenSpec.ofChange fnExactDistanceOfWrong)

/- THE SECOND FORM. 'bulk': how many values and letters a reading holds, each counted each time it is reached (what is shared counts as often as it is met; a slice's spare places count too). A statement '..UptoSaid' is the law's where the arguments, and the package variables that the reading takes, are together of bulk at most 1048576: NARROWER than '..Said'. Prove '..Said' where nothing that the law and all that it calls make is longer than what came in: it says more and counts as full. Else prove '..UptoSaid'. A law counts once. -/
mutual
def uptoBulk {H : Type} : DataW H → Nat
  | .lit (.string bytes) => bytes.length + 1
  | .lit _ => 1
  | .nil => 1
  | .ptr d => uptoBulk d + 1
  | .slice elems spare => uptoBulkAll elems + uptoBulkAll spare + 1
  | .agg parts => uptoBulkAll parts + 1
  | .iface _ d => uptoBulk d + 1
  | .map entries => uptoBulkEntries entries + 1
  | .held _ => 1
def uptoBulkAll {H : Type} : List (DataW H) → Nat
  | [] => 0
  | d :: r => uptoBulk d + uptoBulkAll r
def uptoBulkEntries {H : Type} : List (Lit × DataW H) → Nat
  | [] => 0
  | x :: r => uptoBulkEntry x + uptoBulkEntries r
def uptoBulkEntry {H : Type} : Lit × DataW H → Nat
  | (.string bytes, d) => bytes.length + uptoBulk d + 1
  | (_, d) => uptoBulk d + 1
 end
def uptoSmall : (H : Type) → List (DataW H) → Bool := fun _ ds => decide (uptoBulkAll ds ≤ 1048576)
def OpenSpec.upto (s : _root_.Go.ChangeSpec) : _root_.Go.OpenSpec := { _root_.Go.OpenSpec.ofChange s with cond := some uptoSmall }

/-- 'laws.FnExactIsInducedPath', WHERE WHAT IT READS IS OF BULK AT MOST 1048576: true; the input reads as it did. -/
def fnExactIsInducedPathUptoRow : OpenClaim := { program := "ytdjkaephmlaahaa", sum := "a0aec6748ed5a55f3103c15ec6515f5e2f3e8182d6faac7ec4e95e0e7ca4997f", func := "loop.example/g02081/laws.FnExactIsInducedPath", spec := "fnExactIsInducedPath", unfollowed := true, recurses := true, apart := false, narrowed := true }
def FnExactIsInducedPathUptoSaid : Prop := fnExactIsInducedPathUptoRow.holds Try.pinned (OpenSpec.upto fnExactIsInducedPathSpec)

/-- 'laws.FnExactIsHole', WHERE WHAT IT READS IS OF BULK AT MOST 1048576: true; the input reads as it did. -/
def fnExactIsHoleUptoRow : OpenClaim := { program := "ytdjkaephmlaahaa", sum := "a0aec6748ed5a55f3103c15ec6515f5e2f3e8182d6faac7ec4e95e0e7ca4997f", func := "loop.example/g02081/laws.FnExactIsHole", spec := "fnExactIsHole", unfollowed := true, recurses := true, apart := false, narrowed := true }
def FnExactIsHoleUptoSaid : Prop := fnExactIsHoleUptoRow.holds Try.pinned (OpenSpec.upto fnExactIsHoleSpec)

/-- 'laws.FnExactIsClaw', WHERE WHAT IT READS IS OF BULK AT MOST 1048576: true; the input reads as it did. -/
def fnExactIsClawUptoRow : OpenClaim := { program := "ytdjkaephmlaahaa", sum := "a0aec6748ed5a55f3103c15ec6515f5e2f3e8182d6faac7ec4e95e0e7ca4997f", func := "loop.example/g02081/laws.FnExactIsClaw", spec := "fnExactIsClaw", unfollowed := true, recurses := true, apart := false, narrowed := true }
def FnExactIsClawUptoSaid : Prop := fnExactIsClawUptoRow.holds Try.pinned (OpenSpec.upto fnExactIsClawSpec)

/-- 'laws.FnExactIsTwoEdges', WHERE WHAT IT READS IS OF BULK AT MOST 1048576: true; the input reads as it did. -/
def fnExactIsTwoEdgesUptoRow : OpenClaim := { program := "ytdjkaephmlaahaa", sum := "a0aec6748ed5a55f3103c15ec6515f5e2f3e8182d6faac7ec4e95e0e7ca4997f", func := "loop.example/g02081/laws.FnExactIsTwoEdges", spec := "fnExactIsTwoEdges", unfollowed := true, recurses := true, apart := false, narrowed := true }
def FnExactIsTwoEdgesUptoSaid : Prop := fnExactIsTwoEdgesUptoRow.holds Try.pinned (OpenSpec.upto fnExactIsTwoEdgesSpec)

/-- 'laws.FnExactCanonicalCycle', WHERE WHAT IT READS IS OF BULK AT MOST 1048576: true; the input reads as it did. -/
def fnExactCanonicalCycleUptoRow : OpenClaim := { program := "ytdjkaephmlaahaa", sum := "a0aec6748ed5a55f3103c15ec6515f5e2f3e8182d6faac7ec4e95e0e7ca4997f", func := "loop.example/g02081/laws.FnExactCanonicalCycle", spec := "fnExactCanonicalCycle", apart := false, narrowed := true }
def FnExactCanonicalCycleUptoSaid : Prop := fnExactCanonicalCycleUptoRow.holds Try.pinned (OpenSpec.upto fnExactCanonicalCycleSpec)

/-- 'laws.FnExactFindInducedPath', WHERE WHAT IT READS IS OF BULK AT MOST 1048576: true; the input reads as it did. -/
def fnExactFindInducedPathUptoRow : OpenClaim := { program := "ytdjkaephmlaahaa", sum := "a0aec6748ed5a55f3103c15ec6515f5e2f3e8182d6faac7ec4e95e0e7ca4997f", func := "loop.example/g02081/laws.FnExactFindInducedPath", spec := "fnExactFindInducedPath", unfollowed := true, recurses := true, apart := false, narrowed := true }
def FnExactFindInducedPathUptoSaid : Prop := fnExactFindInducedPathUptoRow.holds Try.pinned (OpenSpec.upto fnExactFindInducedPathSpec)

/-- 'laws.FnExactFindHole', WHERE WHAT IT READS IS OF BULK AT MOST 1048576: true; the input reads as it did. -/
def fnExactFindHoleUptoRow : OpenClaim := { program := "ytdjkaephmlaahaa", sum := "a0aec6748ed5a55f3103c15ec6515f5e2f3e8182d6faac7ec4e95e0e7ca4997f", func := "loop.example/g02081/laws.FnExactFindHole", spec := "fnExactFindHole", unfollowed := true, recurses := true, apart := false, narrowed := true }
def FnExactFindHoleUptoSaid : Prop := fnExactFindHoleUptoRow.holds Try.pinned (OpenSpec.upto fnExactFindHoleSpec)

/-- 'laws.FnExactFindTwoEdges', WHERE WHAT IT READS IS OF BULK AT MOST 1048576: true; the input reads as it did. -/
def fnExactFindTwoEdgesUptoRow : OpenClaim := { program := "ytdjkaephmlaahaa", sum := "a0aec6748ed5a55f3103c15ec6515f5e2f3e8182d6faac7ec4e95e0e7ca4997f", func := "loop.example/g02081/laws.FnExactFindTwoEdges", spec := "fnExactFindTwoEdges", unfollowed := true, recurses := true, apart := false, narrowed := true }
def FnExactFindTwoEdgesUptoSaid : Prop := fnExactFindTwoEdgesUptoRow.holds Try.pinned (OpenSpec.upto fnExactFindTwoEdgesSpec)

/-- 'laws.FnExactFindClaw', WHERE WHAT IT READS IS OF BULK AT MOST 1048576: true; the input reads as it did. -/
def fnExactFindClawUptoRow : OpenClaim := { program := "ytdjkaephmlaahaa", sum := "a0aec6748ed5a55f3103c15ec6515f5e2f3e8182d6faac7ec4e95e0e7ca4997f", func := "loop.example/g02081/laws.FnExactFindClaw", spec := "fnExactFindClaw", unfollowed := true, recurses := true, apart := false, narrowed := true }
def FnExactFindClawUptoSaid : Prop := fnExactFindClawUptoRow.holds Try.pinned (OpenSpec.upto fnExactFindClawSpec)

/-- 'laws.FnExactIsOrder', WHERE WHAT IT READS IS OF BULK AT MOST 1048576: true; the input reads as it did. -/
def fnExactIsOrderUptoRow : OpenClaim := { program := "ytdjkaephmlaahaa", sum := "a0aec6748ed5a55f3103c15ec6515f5e2f3e8182d6faac7ec4e95e0e7ca4997f", func := "loop.example/g02081/laws.FnExactIsOrder", spec := "fnExactIsOrder", apart := false, narrowed := true }
def FnExactIsOrderUptoSaid : Prop := fnExactIsOrderUptoRow.holds Try.pinned (OpenSpec.upto fnExactIsOrderSpec)

/-- 'laws.FnExactIsConnected', WHERE WHAT IT READS IS OF BULK AT MOST 1048576: true; the input reads as it did. -/
def fnExactIsConnectedUptoRow : OpenClaim := { program := "ytdjkaephmlaahaa", sum := "a0aec6748ed5a55f3103c15ec6515f5e2f3e8182d6faac7ec4e95e0e7ca4997f", func := "loop.example/g02081/laws.FnExactIsConnected", spec := "fnExactIsConnected", unfollowed := true, recurses := true, apart := false, narrowed := true }
def FnExactIsConnectedUptoSaid : Prop := fnExactIsConnectedUptoRow.holds Try.pinned (OpenSpec.upto fnExactIsConnectedSpec)

/-- 'laws.FnExactDistanceOf', WHERE WHAT IT READS IS OF BULK AT MOST 1048576: true; the input reads as it did. -/
def fnExactDistanceOfUptoRow : OpenClaim := { program := "ytdjkaephmlaahaa", sum := "a0aec6748ed5a55f3103c15ec6515f5e2f3e8182d6faac7ec4e95e0e7ca4997f", func := "loop.example/g02081/laws.FnExactDistanceOf", spec := "fnExactDistanceOf", unfollowed := true, recurses := true, apart := false, narrowed := true }
def FnExactDistanceOfUptoSaid : Prop := fnExactDistanceOfUptoRow.holds Try.pinned (OpenSpec.upto fnExactDistanceOfSpec)

end Rows
end Go.Proofs.Ytdjkaephmlaahaa
