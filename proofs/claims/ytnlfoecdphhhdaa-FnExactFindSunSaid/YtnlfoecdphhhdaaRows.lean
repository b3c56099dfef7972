/-
  No cell of these rows narrows 'for every input' (looked for: loops, veiled, ifaces, maps, wideKeys, modest, calm, conditions, laid).
  DERIVED. THE GIVEN ROWS OF THIS SEAT. 12 by the template 'for every input the law returns true; each argument reads behind the call as it read before'; 0 by the template 'total and deterministic' (their statements: YtnlfoecdphhhdaaTotals.lean).
  GIVEN WITH THE SEED: the statements are not yours to turn. If you find one false, say at which input.
  Laid BY PROGRAM, IN A SANDBOX (cutbox-rows.mjs): the forced cells as the released guide's own fill.sh prints them over the translation 2a0986c80c5ab79f… (all of the seat's roots in one cut). By AI agents, Wed Nov 11 2026. No macro, syntax, notation, axiom, sorry.
-/
import Derived.Test.YtnlfoecdphhhdaaChecked
import GoSem.Claim
import GoSem.ClaimJoined
import GoSem.ClaimMapViews
import Derived.JoinedTies
import Derived.KernelRfl
namespace Go.Proofs.Ytnlfoecdphhhdaa
/- THE CELL 'sum', in the pinned program and in every row, IS THE sha256 OF THE DUMP (.gsa) THAT YtnlfoecdphhhdaaProg.lean LOADS. Nothing in Lean hashes anything: it is a label: what it is worth is what the hold of that sum in a sandbox is worth. -/
noncomputable def Try.pinned : Pinned := { name := "ytnlfoecdphhhdaa", sum := "2a0986c80c5ab79f82c99e3603ea2f2595bb1ce1e9e68d75ef619bccf2b9529b", checked := Try.checked }
namespace Rows
def none {H : Type} : Left H := { results := [], args := [] }

/-- 'laws.FnExactFindClaw': WHATEVER THE INPUT: true; the input reads as it did. -/
def fnExactFindClawSpec : ChangeSpec := { name := "fnExactFindClaw", fn := fun _ => fun
  | [d] => { results := [.lit (.bool true)], args := [d] }
  | _ => none }
def fnExactFindClawRow : OpenClaim := { program := "ytnlfoecdphhhdaa", sum := "2a0986c80c5ab79f82c99e3603ea2f2595bb1ce1e9e68d75ef619bccf2b9529b", func := "loop.example/g02081/laws.FnExactFindClaw", spec := "fnExactFindClaw", unfollowed := true, recurses := true, apart := false }
def FnExactFindClawSaid : Prop := fnExactFindClawRow.holds Try.pinned (OpenSpec.ofChange fnExactFindClawSpec)

/-- ITS FALSE NEIGHBOUR: 'it returns false'. Refute it at one input. -/
def fnExactFindClawWrong : ChangeSpec := { name := "fnExactFindClaw", fn := fun _ => fun
  | [d] => { results := [.lit (.bool false)], args := [d] }
  | _ => none }
def FnExactFindClawWrongFalsely : Prop := fnExactFindClawRow.holds Try.pinned (OpenSpec.ofChange fnExactFindClawWrong)

/-- 'laws.FnExactFindTwoEdges': WHATEVER THE INPUT: true; the input reads as it did. -/
def fnExactFindTwoEdgesSpec : ChangeSpec := { name := "fnExactFindTwoEdges", fn := fun _ => fun
  | [d] => { results := [.lit (.bool true)], args := [d] }
  | _ => none }
def fnExactFindTwoEdgesRow : OpenClaim := { program := "ytnlfoecdphhhdaa", sum := "2a0986c80c5ab79f82c99e3603ea2f2595bb1ce1e9e68d75ef619bccf2b9529b", func := "loop.example/g02081/laws.FnExactFindTwoEdges", spec := "fnExactFindTwoEdges", unfollowed := true, recurses := true, apart := false }
def FnExactFindTwoEdgesSaid : Prop := fnExactFindTwoEdgesRow.holds Try.pinned (OpenSpec.ofChange fnExactFindTwoEdgesSpec)

/-- ITS FALSE NEIGHBOUR: 'it returns false'. Refute it at one input. -/
def fnExactFindTwoEdgesWrong : ChangeSpec := { name := "fnExactFindTwoEdges", fn := fun _ => fun
  | [d] => { results := [.lit (.bool false)], args := [d] }
  | _ => none }
def FnExactFindTwoEdgesWrongFalsely : Prop := fnExactFindTwoEdgesRow.holds Try.pinned (OpenSpec.ofChange fnExactFindTwoEdgesWrong)

/-- 'laws.FnExactFindInducedPath': WHATEVER THE INPUT: true; the input reads as it did. -/
def fnExactFindInducedPathSpec : ChangeSpec := { name := "fnExactFindInducedPath", fn := fun _ => fun
  | [d1, d2] => { results := [.lit (.bool true)], args := [d1, d2] }
  | _ => none }
def fnExactFindInducedPathRow : OpenClaim := { program := "ytnlfoecdphhhdaa", sum := "2a0986c80c5ab79f82c99e3603ea2f2595bb1ce1e9e68d75ef619bccf2b9529b", func := "loop.example/g02081/laws.FnExactFindInducedPath", spec := "fnExactFindInducedPath", unfollowed := true, recurses := true, apart := false }
def FnExactFindInducedPathSaid : Prop := fnExactFindInducedPathRow.holds Try.pinned (OpenSpec.ofChange fnExactFindInducedPathSpec)

/-- ITS FALSE NEIGHBOUR: 'it returns false'. Refute it at one input. -/
def fnExactFindInducedPathWrong : ChangeSpec := { name := "fnExactFindInducedPath", fn := fun _ => fun
  | [d1, d2] => { results := [.lit (.bool false)], args := [d1, d2] }
  | _ => none }
def FnExactFindInducedPathWrongFalsely : Prop := fnExactFindInducedPathRow.holds Try.pinned (OpenSpec.ofChange fnExactFindInducedPathWrong)

/-- 'laws.FnExactFindHole': WHATEVER THE INPUT: true; the input reads as it did. -/
def fnExactFindHoleSpec : ChangeSpec := { name := "fnExactFindHole", fn := fun _ => fun
  | [d] => { results := [.lit (.bool true)], args := [d] }
  | _ => none }
def fnExactFindHoleRow : OpenClaim := { program := "ytnlfoecdphhhdaa", sum := "2a0986c80c5ab79f82c99e3603ea2f2595bb1ce1e9e68d75ef619bccf2b9529b", func := "loop.example/g02081/laws.FnExactFindHole", spec := "fnExactFindHole", unfollowed := true, recurses := true, apart := false }
def FnExactFindHoleSaid : Prop := fnExactFindHoleRow.holds Try.pinned (OpenSpec.ofChange fnExactFindHoleSpec)

/-- ITS FALSE NEIGHBOUR: 'it returns false'. Refute it at one input. -/
def fnExactFindHoleWrong : ChangeSpec := { name := "fnExactFindHole", fn := fun _ => fun
  | [d] => { results := [.lit (.bool false)], args := [d] }
  | _ => none }
def FnExactFindHoleWrongFalsely : Prop := fnExactFindHoleRow.holds Try.pinned (OpenSpec.ofChange fnExactFindHoleWrong)

/-- 'laws.FnExactFindOddHole': WHATEVER THE INPUT: true; the input reads as it did. -/
def fnExactFindOddHoleSpec : ChangeSpec := { name := "fnExactFindOddHole", fn := fun _ => fun
  | [d] => { results := [.lit (.bool true)], args := [d] }
  | _ => none }
def fnExactFindOddHoleRow : OpenClaim := { program := "ytnlfoecdphhhdaa", sum := "2a0986c80c5ab79f82c99e3603ea2f2595bb1ce1e9e68d75ef619bccf2b9529b", func := "loop.example/g02081/laws.FnExactFindOddHole", spec := "fnExactFindOddHole", unfollowed := true, recurses := true, apart := false }
def FnExactFindOddHoleSaid : Prop := fnExactFindOddHoleRow.holds Try.pinned (OpenSpec.ofChange fnExactFindOddHoleSpec)

/-- ITS FALSE NEIGHBOUR: 'it returns false'. Refute it at one input. -/
def fnExactFindOddHoleWrong : ChangeSpec := { name := "fnExactFindOddHole", fn := fun _ => fun
  | [d] => { results := [.lit (.bool false)], args := [d] }
  | _ => none }
def FnExactFindOddHoleWrongFalsely : Prop := fnExactFindOddHoleRow.holds Try.pinned (OpenSpec.ofChange fnExactFindOddHoleWrong)

/-- 'laws.FnExactFindAntihole': WHATEVER THE INPUT: true; the input reads as it did. -/
def fnExactFindAntiholeSpec : ChangeSpec := { name := "fnExactFindAntihole", fn := fun _ => fun
  | [d] => { results := [.lit (.bool true)], args := [d] }
  | _ => none }
def fnExactFindAntiholeRow : OpenClaim := { program := "ytnlfoecdphhhdaa", sum := "2a0986c80c5ab79f82c99e3603ea2f2595bb1ce1e9e68d75ef619bccf2b9529b", func := "loop.example/g02081/laws.FnExactFindAntihole", spec := "fnExactFindAntihole", unfollowed := true, recurses := true, apart := false }
def FnExactFindAntiholeSaid : Prop := fnExactFindAntiholeRow.holds Try.pinned (OpenSpec.ofChange fnExactFindAntiholeSpec)

/-- ITS FALSE NEIGHBOUR: 'it returns false'. Refute it at one input. -/
def fnExactFindAntiholeWrong : ChangeSpec := { name := "fnExactFindAntihole", fn := fun _ => fun
  | [d] => { results := [.lit (.bool false)], args := [d] }
  | _ => none }
def FnExactFindAntiholeWrongFalsely : Prop := fnExactFindAntiholeRow.holds Try.pinned (OpenSpec.ofChange fnExactFindAntiholeWrong)

/-- 'laws.FnExactPerfectObstacle': WHATEVER THE INPUT: true; the input reads as it did. -/
def fnExactPerfectObstacleSpec : ChangeSpec := { name := "fnExactPerfectObstacle", fn := fun _ => fun
  | [d] => { results := [.lit (.bool true)], args := [d] }
  | _ => none }
def fnExactPerfectObstacleRow : OpenClaim := { program := "ytnlfoecdphhhdaa", sum := "2a0986c80c5ab79f82c99e3603ea2f2595bb1ce1e9e68d75ef619bccf2b9529b", func := "loop.example/g02081/laws.FnExactPerfectObstacle", spec := "fnExactPerfectObstacle", unfollowed := true, recurses := true, apart := false }
def FnExactPerfectObstacleSaid : Prop := fnExactPerfectObstacleRow.holds Try.pinned (OpenSpec.ofChange fnExactPerfectObstacleSpec)

/-- ITS FALSE NEIGHBOUR: 'it returns false'. Refute it at one input. -/
def fnExactPerfectObstacleWrong : ChangeSpec := { name := "fnExactPerfectObstacle", fn := fun _ => fun
  | [d] => { results := [.lit (.bool false)], args := [d] }
  | _ => none }
def FnExactPerfectObstacleWrongFalsely : Prop := fnExactPerfectObstacleRow.holds Try.pinned (OpenSpec.ofChange fnExactPerfectObstacleWrong)

/-- 'laws.FnExactFindPathOfFour': WHATEVER THE INPUT: true; the input reads as it did. -/
def fnExactFindPathOfFourSpec : ChangeSpec := { name := "fnExactFindPathOfFour", fn := fun _ => fun
  | [d] => { results := [.lit (.bool true)], args := [d] }
  | _ => none }
def fnExactFindPathOfFourRow : OpenClaim := { program := "ytnlfoecdphhhdaa", sum := "2a0986c80c5ab79f82c99e3603ea2f2595bb1ce1e9e68d75ef619bccf2b9529b", func := "loop.example/g02081/laws.FnExactFindPathOfFour", spec := "fnExactFindPathOfFour", unfollowed := true, recurses := true, apart := false }
def FnExactFindPathOfFourSaid : Prop := fnExactFindPathOfFourRow.holds Try.pinned (OpenSpec.ofChange fnExactFindPathOfFourSpec)

/-- ITS FALSE NEIGHBOUR: 'it returns false'. Refute it at one input. -/
def fnExactFindPathOfFourWrong : ChangeSpec := { name := "fnExactFindPathOfFour", fn := fun _ => fun
  | [d] => { results := [.lit (.bool false)], args := [d] }
  | _ => none }
def FnExactFindPathOfFourWrongFalsely : Prop := fnExactFindPathOfFourRow.holds Try.pinned (OpenSpec.ofChange fnExactFindPathOfFourWrong)

/-- 'laws.FnExactIsCograph': WHATEVER THE INPUT: true; the input reads as it did. -/
def fnExactIsCographSpec : ChangeSpec := { name := "fnExactIsCograph", fn := fun _ => fun
  | [d] => { results := [.lit (.bool true)], args := [d] }
  | _ => none }
def fnExactIsCographRow : OpenClaim := { program := "ytnlfoecdphhhdaa", sum := "2a0986c80c5ab79f82c99e3603ea2f2595bb1ce1e9e68d75ef619bccf2b9529b", func := "loop.example/g02081/laws.FnExactIsCograph", spec := "fnExactIsCograph", unfollowed := true, recurses := true, apart := false }
def FnExactIsCographSaid : Prop := fnExactIsCographRow.holds Try.pinned (OpenSpec.ofChange fnExactIsCographSpec)

/-- ITS FALSE NEIGHBOUR: 'it returns false'. Refute it at one input. -/
def fnExactIsCographWrong : ChangeSpec := { name := "fnExactIsCograph", fn := fun _ => fun
  | [d] => { results := [.lit (.bool false)], args := [d] }
  | _ => none }
def FnExactIsCographWrongFalsely : Prop := fnExactIsCographRow.holds Try.pinned (OpenSpec.ofChange fnExactIsCographWrong)

/-- 'laws.FnExactFindSun': WHATEVER THE INPUT: true; the input reads as it did. -/
def fnExactFindSunSpec : ChangeSpec := { name := "fnExactFindSun", fn := fun _ => fun
  | [d] => { results := [.lit (.bool true)], args := [d] }
  | _ => none }
def fnExactFindSunRow : OpenClaim := { program := "ytnlfoecdphhhdaa", sum := "2a0986c80c5ab79f82c99e3603ea2f2595bb1ce1e9e68d75ef619bccf2b9529b", func := "loop.example/g02081/laws.FnExactFindSun", spec := "fnExactFindSun", unfollowed := true, recurses := true, apart := false }
def FnExactFindSunSaid : Prop := fnExactFindSunRow.holds Try.pinned (OpenSpec.ofChange fnExactFindSunSpec)

/-- ITS FALSE NEIGHBOUR: 'it returns false'. Refute it at one input. -/
def fnExactFindSunWrong : ChangeSpec := { name := "fnExactFindSun", fn := fun _ => fun
  | [d] => { results := [.lit (.bool false)], args := [d] }
  | _ => none }
def FnExactFindSunWrongFalsely : Prop := fnExactFindSunRow.holds Try.pinned (OpenSpec.ofChange fnExactFindSunWrong)

/-- 'laws.FnExactSplitObstacle': WHATEVER THE INPUT: true; the input reads as it did. -/
def fnExactSplitObstacleSpec : ChangeSpec := { name := "fnExactSplitObstacle", fn := fun _ => fun
  | [d] => { results := [.lit (.bool true)], args := [d] }
  | _ => none }
def fnExactSplitObstacleRow : OpenClaim := { program := "ytnlfoecdphhhdaa", sum := "2a0986c80c5ab79f82c99e3603ea2f2595bb1ce1e9e68d75ef619bccf2b9529b", func := "loop.example/g02081/laws.FnExactSplitObstacle", spec := "fnExactSplitObstacle", unfollowed := true, recurses := true, apart := false }
def FnExactSplitObstacleSaid : Prop := fnExactSplitObstacleRow.holds Try.pinned (OpenSpec.ofChange fnExactSplitObstacleSpec)

/-- ITS FALSE NEIGHBOUR: 'it returns false'. Refute it at one input. -/
def fnExactSplitObstacleWrong : ChangeSpec := { name := "fnExactSplitObstacle", fn := fun _ => fun
  | [d] => { results := [.lit (.bool false)], args := [d] }
  | _ => none }
def FnExactSplitObstacleWrongFalsely : Prop := fnExactSplitObstacleRow.holds Try.pinned (OpenSpec.ofChange fnExactSplitObstacleWrong)

/-- 'laws.FnExactStrongObstacle': WHATEVER THE INPUT: true; the input reads as it did. -/
def fnExactStrongObstacleSpec : ChangeSpec := { name := "fnExactStrongObstacle", fn := fun _ => fun
  | [d] => { results := [.lit (.bool true)], args := [d] }
  | _ => none }
def fnExactStrongObstacleRow : OpenClaim := { program := "ytnlfoecdphhhdaa", sum := "2a0986c80c5ab79f82c99e3603ea2f2595bb1ce1e9e68d75ef619bccf2b9529b", func := "loop.example/g02081/laws.FnExactStrongObstacle", spec := "fnExactStrongObstacle", unfollowed := true, recurses := true, apart := false }
def FnExactStrongObstacleSaid : Prop := fnExactStrongObstacleRow.holds Try.pinned (OpenSpec.ofChange fnExactStrongObstacleSpec)

/-- ITS FALSE NEIGHBOUR: 'it returns false'. Refute it at one input. -/
def fnExactStrongObstacleWrong : ChangeSpec := { name := "fnExactStrongObstacle", fn := fun _ => fun
  | [d] => { results := [.lit (.bool false)], args := [d] }
  | _ => none }
def FnExactStrongObstacleWrongFalsely : Prop := fnExactStrongObstacleRow.holds Try.pinned (OpenSpec.ofChange fnExactStrongObstacleWrong)

/- THE SECOND FORM. 'bulk': how many values and letters a reading holds, each counted each time it is reached (what is shared counts as often as it is met; a slice's spare places count too). A statement '..UptoSaid' is the law's where the arguments, and the package variables that the reading takes, are together of bulk at most 1048576: NARROWER than '..Said'. Prove '..Said' where nothing that the law and all that it calls make is longer than what came in: it says more and counts as full. Else prove '..UptoSaid'. A law counts once. -/
mutual
def uptoBulk {H : Type} : DataW H → Nat
  | .lit (.string bytes) => bytes.length + 1
  | .lit _ => 1
  | .nil => 1
  | .ptr d => uptoBulk d + 1
  | .slice elems spare => uptoBulkAll elems + uptoBulkAll spare + 1
  | .agg parts => uptoBulkAll parts + 1
  | .iface _ d => uptoBulk d + 1
  | .map entries => uptoBulkEntries entries + 1
  | .held _ => 1
def uptoBulkAll {H : Type} : List (DataW H) → Nat
  | [] => 0
  | d :: r => uptoBulk d + uptoBulkAll r
def uptoBulkEntries {H : Type} : List (Lit × DataW H) → Nat
  | [] => 0
  | x :: r => uptoBulkEntry x + uptoBulkEntries r
def uptoBulkEntry {H : Type} : Lit × DataW H → Nat
  | (.string bytes, d) => bytes.length + uptoBulk d + 1
  | (_, d) => uptoBulk d + 1
 end
def uptoSmall : (H : Type) → List (DataW H) → Bool := fun _ ds => decide (uptoBulkAll ds ≤ 1048576)
def OpenSpec.upto (s : _root_.Go.ChangeSpec) : _root_.Go.OpenSpec := { _root_.Go.OpenSpec.ofChange s with cond := some uptoSmall }

/-- 'laws.FnExactFindClaw', WHERE WHAT IT READS IS OF BULK AT MOST 1048576: true; the input reads as it did. -/
def fnExactFindClawUptoRow : OpenClaim := { program := "ytnlfoecdphhhdaa", sum := "2a0986c80c5ab79f82c99e3603ea2f2595bb1ce1e9e68d75ef619bccf2b9529b", func := "loop.example/g02081/laws.FnExactFindClaw", spec := "fnExactFindClaw", unfollowed := true, recurses := true, apart := false, narrowed := true }
def FnExactFindClawUptoSaid : Prop := fnExactFindClawUptoRow.holds Try.pinned (OpenSpec.upto fnExactFindClawSpec)

/-- 'laws.FnExactFindTwoEdges', WHERE WHAT IT READS IS OF BULK AT MOST 1048576: true; the input reads as it did. -/
def fnExactFindTwoEdgesUptoRow : OpenClaim := { program := "ytnlfoecdphhhdaa", sum := "2a0986c80c5ab79f82c99e3603ea2f2595bb1ce1e9e68d75ef619bccf2b9529b", func := "loop.example/g02081/laws.FnExactFindTwoEdges", spec := "fnExactFindTwoEdges", unfollowed := true, recurses := true, apart := false, narrowed := true }
def FnExactFindTwoEdgesUptoSaid : Prop := fnExactFindTwoEdgesUptoRow.holds Try.pinned (OpenSpec.upto fnExactFindTwoEdgesSpec)

/-- 'laws.FnExactFindInducedPath', WHERE WHAT IT READS IS OF BULK AT MOST 1048576: true; the input reads as it did. -/
def fnExactFindInducedPathUptoRow : OpenClaim := { program := "ytnlfoecdphhhdaa", sum := "2a0986c80c5ab79f82c99e3603ea2f2595bb1ce1e9e68d75ef619bccf2b9529b", func := "loop.example/g02081/laws.FnExactFindInducedPath", spec := "fnExactFindInducedPath", unfollowed := true, recurses := true, apart := false, narrowed := true }
def FnExactFindInducedPathUptoSaid : Prop := fnExactFindInducedPathUptoRow.holds Try.pinned (OpenSpec.upto fnExactFindInducedPathSpec)

/-- 'laws.FnExactFindHole', WHERE WHAT IT READS IS OF BULK AT MOST 1048576: true; the input reads as it did. -/
def fnExactFindHoleUptoRow : OpenClaim := { program := "ytnlfoecdphhhdaa", sum := "2a0986c80c5ab79f82c99e3603ea2f2595bb1ce1e9e68d75ef619bccf2b9529b", func := "loop.example/g02081/laws.FnExactFindHole", spec := "fnExactFindHole", unfollowed := true, recurses := true, apart := false, narrowed := true }
def FnExactFindHoleUptoSaid : Prop := fnExactFindHoleUptoRow.holds Try.pinned (OpenSpec.upto fnExactFindHoleSpec)

/-- 'laws.FnExactFindOddHole', WHERE WHAT IT READS IS OF BULK AT MOST 1048576: true; the input reads as it did. -/
def fnExactFindOddHoleUptoRow : OpenClaim := { program := "ytnlfoecdphhhdaa", sum := "2a0986c80c5ab79f82c99e3603ea2f2595bb1ce1e9e68d75ef619bccf2b9529b", func := "loop.example/g02081/laws.FnExactFindOddHole", spec := "fnExactFindOddHole", unfollowed := true, recurses := true, apart := false, narrowed := true }
def FnExactFindOddHoleUptoSaid : Prop := fnExactFindOddHoleUptoRow.holds Try.pinned (OpenSpec.upto fnExactFindOddHoleSpec)

/-- 'laws.FnExactFindAntihole', WHERE WHAT IT READS IS OF BULK AT MOST 1048576: true; the input reads as it did. -/
def fnExactFindAntiholeUptoRow : OpenClaim := { program := "ytnlfoecdphhhdaa", sum := "2a0986c80c5ab79f82c99e3603ea2f2595bb1ce1e9e68d75ef619bccf2b9529b", func := "loop.example/g02081/laws.FnExactFindAntihole", spec := "fnExactFindAntihole", unfollowed := true, recurses := true, apart := false, narrowed := true }
def FnExactFindAntiholeUptoSaid : Prop := fnExactFindAntiholeUptoRow.holds Try.pinned (OpenSpec.upto fnExactFindAntiholeSpec)

/-- 'laws.FnExactPerfectObstacle', WHERE WHAT IT READS IS OF BULK AT MOST 1048576: true; the input reads as it did. -/
def fnExactPerfectObstacleUptoRow : OpenClaim := { program := "ytnlfoecdphhhdaa", sum := "2a0986c80c5ab79f82c99e3603ea2f2595bb1ce1e9e68d75ef619bccf2b9529b", func := "loop.example/g02081/laws.FnExactPerfectObstacle", spec := "fnExactPerfectObstacle", unfollowed := true, recurses := true, apart := false, narrowed := true }
def FnExactPerfectObstacleUptoSaid : Prop := fnExactPerfectObstacleUptoRow.holds Try.pinned (OpenSpec.upto fnExactPerfectObstacleSpec)

/-- 'laws.FnExactFindPathOfFour', WHERE WHAT IT READS IS OF BULK AT MOST 1048576: true; the input reads as it did. -/
def fnExactFindPathOfFourUptoRow : OpenClaim := { program := "ytnlfoecdphhhdaa", sum := "2a0986c80c5ab79f82c99e3603ea2f2595bb1ce1e9e68d75ef619bccf2b9529b", func := "loop.example/g02081/laws.FnExactFindPathOfFour", spec := "fnExactFindPathOfFour", unfollowed := true, recurses := true, apart := false, narrowed := true }
def FnExactFindPathOfFourUptoSaid : Prop := fnExactFindPathOfFourUptoRow.holds Try.pinned (OpenSpec.upto fnExactFindPathOfFourSpec)

/-- 'laws.FnExactIsCograph', WHERE WHAT IT READS IS OF BULK AT MOST 1048576: true; the input reads as it did. -/
def fnExactIsCographUptoRow : OpenClaim := { program := "ytnlfoecdphhhdaa", sum := "2a0986c80c5ab79f82c99e3603ea2f2595bb1ce1e9e68d75ef619bccf2b9529b", func := "loop.example/g02081/laws.FnExactIsCograph", spec := "fnExactIsCograph", unfollowed := true, recurses := true, apart := false, narrowed := true }
def FnExactIsCographUptoSaid : Prop := fnExactIsCographUptoRow.holds Try.pinned (OpenSpec.upto fnExactIsCographSpec)

/-- 'laws.FnExactFindSun', WHERE WHAT IT READS IS OF BULK AT MOST 1048576: true; the input reads as it did. -/
def fnExactFindSunUptoRow : OpenClaim := { program := "ytnlfoecdphhhdaa", sum := "2a0986c80c5ab79f82c99e3603ea2f2595bb1ce1e9e68d75ef619bccf2b9529b", func := "loop.example/g02081/laws.FnExactFindSun", spec := "fnExactFindSun", unfollowed := true, recurses := true, apart := false, narrowed := true }
def FnExactFindSunUptoSaid : Prop := fnExactFindSunUptoRow.holds Try.pinned (OpenSpec.upto fnExactFindSunSpec)

/-- 'laws.FnExactSplitObstacle', WHERE WHAT IT READS IS OF BULK AT MOST 1048576: true; the input reads as it did. -/
def fnExactSplitObstacleUptoRow : OpenClaim := { program := "ytnlfoecdphhhdaa", sum := "2a0986c80c5ab79f82c99e3603ea2f2595bb1ce1e9e68d75ef619bccf2b9529b", func := "loop.example/g02081/laws.FnExactSplitObstacle", spec := "fnExactSplitObstacle", unfollowed := true, recurses := true, apart := false, narrowed := true }
def FnExactSplitObstacleUptoSaid : Prop := fnExactSplitObstacleUptoRow.holds Try.pinned (OpenSpec.upto fnExactSplitObstacleSpec)

/-- 'laws.FnExactStrongObstacle', WHERE WHAT IT READS IS OF BULK AT MOST 1048576: true; the input reads as it did. -/
def fnExactStrongObstacleUptoRow : OpenClaim := { program := "ytnlfoecdphhhdaa", sum := "2a0986c80c5ab79f82c99e3603ea2f2595bb1ce1e9e68d75ef619bccf2b9529b", func := "loop.example/g02081/laws.FnExactStrongObstacle", spec := "fnExactStrongObstacle", unfollowed := true, recurses := true, apart := false, narrowed := true }
def FnExactStrongObstacleUptoSaid : Prop := fnExactStrongObstacleUptoRow.holds Try.pinned (OpenSpec.upto fnExactStrongObstacleSpec)

end Rows
end Go.Proofs.Ytnlfoecdphhhdaa
