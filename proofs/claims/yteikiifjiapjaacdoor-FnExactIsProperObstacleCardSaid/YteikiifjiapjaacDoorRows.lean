/-
  NARROWER THAN 'FOR EVERY INPUT', by the rows' own cells (each row's printed sentence says how): FnExactQuotientOf: laid · FnExactColorByOrder: laid · FnExactSidesOf: laid · FnExactIsBipartite: laid · FnExactAvoidingPath: laid · FnExactTriplePaths: laid · FnExactIsTriple: laid · FnExactIsIntervalObstacle: laid · FnExactIsProperObstacle: laid · FnExactFindTriple: laid · FnExactIntervalObstacle: laid · FnExactProperObstacle: laid · FnExactMatchingOf: laid.
  DERIVED. THE GIVEN ROWS OF THIS SEAT. 13 by the template 'for every input the law returns true; each argument reads behind the call as it read before'; 0 by the template 'total and deterministic' (their statements: YteikiifjiapjaacDoorTotals.lean).
  GIVEN WITH THE SEED: the statements are not yours to turn. If you find one false, say at which input.
  Laid BY PROGRAM, IN A SANDBOX (cutbox-rows.mjs): the forced cells as the released guide's own fill.sh prints them over the translation a6333fbbf4dbfe13… (all of the seat's roots in one cut). By AI agents, Wed Nov 11 2026. No macro, syntax, notation, axiom, sorry.
-/
import Derived.Test.YteikiifjiapjaacDoorChecked
import GoSem.Claim
import GoSem.ClaimJoined
import GoSem.ClaimMapViews
import Derived.JoinedTies
import Derived.KernelRfl
namespace Go.Proofs.YteikiifjiapjaacDoor
/- THE CELL 'sum', in the pinned program and in every row, IS THE sha256 OF THE DUMP (.gsa) THAT YteikiifjiapjaacDoorProg.lean LOADS. Nothing in Lean hashes anything: it is a label: what it is worth is what the hold of that sum in a sandbox is worth. -/
noncomputable def Tryd.pinned : Pinned := { name := "yteikiifjiapjaacdoor", sum := "a6333fbbf4dbfe135b4c31df04419ee07e3fb70df183b58d487bc7b660f478ff", checked := Tryd.checked }
namespace Rows
def none {H : Type} : Left H := { results := [], args := [] }

/- WHAT THE LISTED PACKAGE-LEVEL VARIABLES READ AS WHEN THE CALL BEGINS. Each datum BY PROGRAM (the guide's laid-datum.mjs) off the statement by which the dump's own 'gosem.cut.vars' lays the variable. In a bare row this is a premise. The card (YteikiifjiapjaacDoorCards.lean) ties it to the program's text. -/
def laid_math_bits_deBruijn32tab {H : Type} : DataW H := .agg [.lit (.int .u8 0), .lit (.int .u8 1), .lit (.int .u8 28), .lit (.int .u8 2), .lit (.int .u8 29), .lit (.int .u8 14), .lit (.int .u8 24), .lit (.int .u8 3), .lit (.int .u8 30), .lit (.int .u8 22), .lit (.int .u8 20), .lit (.int .u8 15), .lit (.int .u8 25), .lit (.int .u8 17), .lit (.int .u8 4), .lit (.int .u8 8), .lit (.int .u8 31), .lit (.int .u8 27), .lit (.int .u8 13), .lit (.int .u8 23), .lit (.int .u8 21), .lit (.int .u8 19), .lit (.int .u8 16), .lit (.int .u8 7), .lit (.int .u8 26), .lit (.int .u8 12), .lit (.int .u8 18), .lit (.int .u8 6), .lit (.int .u8 11), .lit (.int .u8 5), .lit (.int .u8 10), .lit (.int .u8 9)]
def laid_math_bits_deBruijn64tab {H : Type} : DataW H := .agg [.lit (.int .u8 0), .lit (.int .u8 1), .lit (.int .u8 56), .lit (.int .u8 2), .lit (.int .u8 57), .lit (.int .u8 49), .lit (.int .u8 28), .lit (.int .u8 3), .lit (.int .u8 61), .lit (.int .u8 58), .lit (.int .u8 42), .lit (.int .u8 50), .lit (.int .u8 38), .lit (.int .u8 29), .lit (.int .u8 17), .lit (.int .u8 4), .lit (.int .u8 62), .lit (.int .u8 47), .lit (.int .u8 59), .lit (.int .u8 36), .lit (.int .u8 45), .lit (.int .u8 43), .lit (.int .u8 51), .lit (.int .u8 22), .lit (.int .u8 53), .lit (.int .u8 39), .lit (.int .u8 33), .lit (.int .u8 30), .lit (.int .u8 24), .lit (.int .u8 18), .lit (.int .u8 12), .lit (.int .u8 5), .lit (.int .u8 63), .lit (.int .u8 55), .lit (.int .u8 48), .lit (.int .u8 27), .lit (.int .u8 60), .lit (.int .u8 41), .lit (.int .u8 37), .lit (.int .u8 16), .lit (.int .u8 46), .lit (.int .u8 35), .lit (.int .u8 44), .lit (.int .u8 21), .lit (.int .u8 52), .lit (.int .u8 32), .lit (.int .u8 23), .lit (.int .u8 11), .lit (.int .u8 54), .lit (.int .u8 26), .lit (.int .u8 40), .lit (.int .u8 15), .lit (.int .u8 34), .lit (.int .u8 20), .lit (.int .u8 31), .lit (.int .u8 10), .lit (.int .u8 25), .lit (.int .u8 14), .lit (.int .u8 19), .lit (.int .u8 9), .lit (.int .u8 13), .lit (.int .u8 8), .lit (.int .u8 7), .lit (.int .u8 6)]
def laid_errors_errorType {H : Type} : DataW H := .iface "internal/reflectlite.rtype" (.agg [.ptr (.lit (.string [101, 114, 114, 111, 114]))])

/-- 'laws.FnExactQuotientOf': WHATEVER THE INPUT: true; the input reads as it did. -/
def fnExactQuotientOfSpec : ChangeSpec := { name := "fnExactQuotientOf", fn := fun _ => fun
  | [d1, d2] => { results := [.lit (.bool true)], args := [d1, d2] }
  | _ => none }
def fnExactQuotientOfRow : OpenClaim := { program := "yteikiifjiapjaacdoor", sum := "a6333fbbf4dbfe135b4c31df04419ee07e3fb70df183b58d487bc7b660f478ff", func := "loop.example/g02081/laws.FnExactQuotientOf", spec := "fnExactQuotientOf", unfollowed := true, recurses := true, named := ["math/bits.deBruijn32tab", "math/bits.deBruijn64tab"], leaving := true, apart := false, laid := [("math/bits.deBruijn32tab", laid_math_bits_deBruijn32tab), ("math/bits.deBruijn64tab", laid_math_bits_deBruijn64tab)] }
def FnExactQuotientOfSaid : Prop := fnExactQuotientOfRow.holds Tryd.pinned (OpenSpec.ofChange fnExactQuotientOfSpec)

/-- ITS FALSE NEIGHBOUR: 'it returns false'. Refute it at one input. -/
def fnExactQuotientOfWrong : ChangeSpec := { name := "fnExactQuotientOf", fn := fun _ => fun
  | [d1, d2] => { results := [.lit (.bool false)], args := [d1, d2] }
  | _ => none }
def FnExactQuotientOfWrongFalsely : Prop := fnExactQuotientOfRow.holds Tryd.pinned (OpenSpec.ofChange fnExactQuotientOfWrong)

/-- 'laws.FnExactColorByOrder': WHATEVER THE INPUT: true; the input reads as it did. -/
def fnExactColorByOrderSpec : ChangeSpec := { name := "fnExactColorByOrder", fn := fun _ => fun
  | [d1, d2] => { results := [.lit (.bool true)], args := [d1, d2] }
  | _ => none }
def fnExactColorByOrderRow : OpenClaim := { program := "yteikiifjiapjaacdoor", sum := "a6333fbbf4dbfe135b4c31df04419ee07e3fb70df183b58d487bc7b660f478ff", func := "loop.example/g02081/laws.FnExactColorByOrder", spec := "fnExactColorByOrder", unfollowed := true, recurses := true, named := ["math/bits.deBruijn32tab", "math/bits.deBruijn64tab"], leaving := true, apart := false, laid := [("math/bits.deBruijn32tab", laid_math_bits_deBruijn32tab), ("math/bits.deBruijn64tab", laid_math_bits_deBruijn64tab)] }
def FnExactColorByOrderSaid : Prop := fnExactColorByOrderRow.holds Tryd.pinned (OpenSpec.ofChange fnExactColorByOrderSpec)

/-- ITS FALSE NEIGHBOUR: 'it returns false'. Refute it at one input. -/
def fnExactColorByOrderWrong : ChangeSpec := { name := "fnExactColorByOrder", fn := fun _ => fun
  | [d1, d2] => { results := [.lit (.bool false)], args := [d1, d2] }
  | _ => none }
def FnExactColorByOrderWrongFalsely : Prop := fnExactColorByOrderRow.holds Tryd.pinned (OpenSpec.ofChange fnExactColorByOrderWrong)

/-- 'laws.FnExactSidesOf': WHATEVER THE INPUT: true; the input reads as it did. -/
def fnExactSidesOfSpec : ChangeSpec := { name := "fnExactSidesOf", fn := fun _ => fun
  | [d] => { results := [.lit (.bool true)], args := [d] }
  | _ => none }
def fnExactSidesOfRow : OpenClaim := { program := "yteikiifjiapjaacdoor", sum := "a6333fbbf4dbfe135b4c31df04419ee07e3fb70df183b58d487bc7b660f478ff", func := "loop.example/g02081/laws.FnExactSidesOf", spec := "fnExactSidesOf", inPlace := ["(*sync.WaitGroup).Add", "internal/race.ReleaseMerge", "internal/race.Disable", "internal/race.Enable", "internal/synctest.IsInBubble", "internal/synctest.Associate[sync.WaitGroup]", "sync.fatal", "sync/atomic.OrUint64", "sync/atomic.AddUint64", "internal/race.Read", "sync/atomic.LoadUint64", "sync/atomic.StoreUint64", "internal/synctest.Disassociate[sync.WaitGroup]", "sync.runtime_Semrelease", "(*sync.WaitGroup).Done", "(*sync.WaitGroup).Wait", "internal/race.Acquire", "internal/synctest.IsAssociated[sync.WaitGroup]", "sync/atomic.CompareAndSwapUint64", "internal/race.Write", "sync.runtime_SemacquireWaitGroup"], unfollowed := true, recurses := true, named := ["math/bits.deBruijn32tab", "math/bits.deBruijn64tab"], leaving := true, apart := false, laid := [("math/bits.deBruijn32tab", laid_math_bits_deBruijn32tab), ("math/bits.deBruijn64tab", laid_math_bits_deBruijn64tab)] }
def FnExactSidesOfSaid : Prop := fnExactSidesOfRow.holds Tryd.pinned (OpenSpec.ofChange fnExactSidesOfSpec)

/-- ITS FALSE NEIGHBOUR: 'it returns false'. Refute it at one input. -/
def fnExactSidesOfWrong : ChangeSpec := { name := "fnExactSidesOf", fn := fun _ => fun
  | [d] => { results := [.lit (.bool false)], args := [d] }
  | _ => none }
def FnExactSidesOfWrongFalsely : Prop := fnExactSidesOfRow.holds Tryd.pinned (OpenSpec.ofChange fnExactSidesOfWrong)

/-- 'laws.FnExactIsBipartite': WHATEVER THE INPUT: true; the input reads as it did. -/
def fnExactIsBipartiteSpec : ChangeSpec := { name := "fnExactIsBipartite", fn := fun _ => fun
  | [d] => { results := [.lit (.bool true)], args := [d] }
  | _ => none }
def fnExactIsBipartiteRow : OpenClaim := { program := "yteikiifjiapjaacdoor", sum := "a6333fbbf4dbfe135b4c31df04419ee07e3fb70df183b58d487bc7b660f478ff", func := "loop.example/g02081/laws.FnExactIsBipartite", spec := "fnExactIsBipartite", inPlace := ["(*sync.WaitGroup).Add", "internal/race.ReleaseMerge", "internal/race.Disable", "internal/race.Enable", "internal/synctest.IsInBubble", "internal/synctest.Associate[sync.WaitGroup]", "sync.fatal", "sync/atomic.OrUint64", "sync/atomic.AddUint64", "internal/race.Read", "sync/atomic.LoadUint64", "sync/atomic.StoreUint64", "internal/synctest.Disassociate[sync.WaitGroup]", "sync.runtime_Semrelease", "(*sync.WaitGroup).Done", "(*sync.WaitGroup).Wait", "internal/race.Acquire", "internal/synctest.IsAssociated[sync.WaitGroup]", "sync/atomic.CompareAndSwapUint64", "internal/race.Write", "sync.runtime_SemacquireWaitGroup"], unfollowed := true, recurses := true, named := ["math/bits.deBruijn32tab", "math/bits.deBruijn64tab"], leaving := true, apart := false, laid := [("math/bits.deBruijn32tab", laid_math_bits_deBruijn32tab), ("math/bits.deBruijn64tab", laid_math_bits_deBruijn64tab)] }
def FnExactIsBipartiteSaid : Prop := fnExactIsBipartiteRow.holds Tryd.pinned (OpenSpec.ofChange fnExactIsBipartiteSpec)

/-- ITS FALSE NEIGHBOUR: 'it returns false'. Refute it at one input. -/
def fnExactIsBipartiteWrong : ChangeSpec := { name := "fnExactIsBipartite", fn := fun _ => fun
  | [d] => { results := [.lit (.bool false)], args := [d] }
  | _ => none }
def FnExactIsBipartiteWrongFalsely : Prop := fnExactIsBipartiteRow.holds Tryd.pinned (OpenSpec.ofChange fnExactIsBipartiteWrong)

/-- 'laws.FnExactAvoidingPath': WHATEVER THE INPUT: true; the input reads as it did. -/
def fnExactAvoidingPathSpec : ChangeSpec := { name := "fnExactAvoidingPath", fn := fun _ => fun
  | [d1, d2, d3, d4] => { results := [.lit (.bool true)], args := [d1, d2, d3, d4] }
  | _ => none }
def fnExactAvoidingPathRow : OpenClaim := { program := "yteikiifjiapjaacdoor", sum := "a6333fbbf4dbfe135b4c31df04419ee07e3fb70df183b58d487bc7b660f478ff", func := "loop.example/g02081/laws.FnExactAvoidingPath", spec := "fnExactAvoidingPath", unfollowed := true, recurses := true, named := ["math/bits.deBruijn32tab", "math/bits.deBruijn64tab"], leaving := true, apart := false, laid := [("math/bits.deBruijn32tab", laid_math_bits_deBruijn32tab), ("math/bits.deBruijn64tab", laid_math_bits_deBruijn64tab)] }
def FnExactAvoidingPathSaid : Prop := fnExactAvoidingPathRow.holds Tryd.pinned (OpenSpec.ofChange fnExactAvoidingPathSpec)

/-- ITS FALSE NEIGHBOUR: 'it returns false'. Refute it at one input. -/
def fnExactAvoidingPathWrong : ChangeSpec := { name := "fnExactAvoidingPath", fn := fun _ => fun
  | [d1, d2, d3, d4] => { results := [.lit (.bool false)], args := [d1, d2, d3, d4] }
  | _ => none }
def FnExactAvoidingPathWrongFalsely : Prop := fnExactAvoidingPathRow.holds Tryd.pinned (OpenSpec.ofChange fnExactAvoidingPathWrong)

/-- 'laws.FnExactTriplePaths': WHATEVER THE INPUT: true; the input reads as it did. -/
def fnExactTriplePathsSpec : ChangeSpec := { name := "fnExactTriplePaths", fn := fun _ => fun
  | [d1, d2, d3, d4] => { results := [.lit (.bool true)], args := [d1, d2, d3, d4] }
  | _ => none }
def fnExactTriplePathsRow : OpenClaim := { program := "yteikiifjiapjaacdoor", sum := "a6333fbbf4dbfe135b4c31df04419ee07e3fb70df183b58d487bc7b660f478ff", func := "loop.example/g02081/laws.FnExactTriplePaths", spec := "fnExactTriplePaths", unfollowed := true, recurses := true, named := ["math/bits.deBruijn32tab", "math/bits.deBruijn64tab"], leaving := true, apart := false, laid := [("math/bits.deBruijn32tab", laid_math_bits_deBruijn32tab), ("math/bits.deBruijn64tab", laid_math_bits_deBruijn64tab)] }
def FnExactTriplePathsSaid : Prop := fnExactTriplePathsRow.holds Tryd.pinned (OpenSpec.ofChange fnExactTriplePathsSpec)

/-- ITS FALSE NEIGHBOUR: 'it returns false'. Refute it at one input. -/
def fnExactTriplePathsWrong : ChangeSpec := { name := "fnExactTriplePaths", fn := fun _ => fun
  | [d1, d2, d3, d4] => { results := [.lit (.bool false)], args := [d1, d2, d3, d4] }
  | _ => none }
def FnExactTriplePathsWrongFalsely : Prop := fnExactTriplePathsRow.holds Tryd.pinned (OpenSpec.ofChange fnExactTriplePathsWrong)

/-- 'laws.FnExactIsTriple': WHATEVER THE INPUT: true; the input reads as it did. -/
def fnExactIsTripleSpec : ChangeSpec := { name := "fnExactIsTriple", fn := fun _ => fun
  | [d1, d2, d3, d4] => { results := [.lit (.bool true)], args := [d1, d2, d3, d4] }
  | _ => none }
def fnExactIsTripleRow : OpenClaim := { program := "yteikiifjiapjaacdoor", sum := "a6333fbbf4dbfe135b4c31df04419ee07e3fb70df183b58d487bc7b660f478ff", func := "loop.example/g02081/laws.FnExactIsTriple", spec := "fnExactIsTriple", unfollowed := true, recurses := true, named := ["math/bits.deBruijn32tab", "math/bits.deBruijn64tab"], leaving := true, apart := false, laid := [("math/bits.deBruijn32tab", laid_math_bits_deBruijn32tab), ("math/bits.deBruijn64tab", laid_math_bits_deBruijn64tab)] }
def FnExactIsTripleSaid : Prop := fnExactIsTripleRow.holds Tryd.pinned (OpenSpec.ofChange fnExactIsTripleSpec)

/-- ITS FALSE NEIGHBOUR: 'it returns false'. Refute it at one input. -/
def fnExactIsTripleWrong : ChangeSpec := { name := "fnExactIsTriple", fn := fun _ => fun
  | [d1, d2, d3, d4] => { results := [.lit (.bool false)], args := [d1, d2, d3, d4] }
  | _ => none }
def FnExactIsTripleWrongFalsely : Prop := fnExactIsTripleRow.holds Tryd.pinned (OpenSpec.ofChange fnExactIsTripleWrong)

/-- 'laws.FnExactIsIntervalObstacle': WHATEVER THE INPUT: true; the input reads as it did. -/
def fnExactIsIntervalObstacleSpec : ChangeSpec := { name := "fnExactIsIntervalObstacle", fn := fun _ => fun
  | [d1, d2] => { results := [.lit (.bool true)], args := [d1, d2] }
  | _ => none }
def fnExactIsIntervalObstacleRow : OpenClaim := { program := "yteikiifjiapjaacdoor", sum := "a6333fbbf4dbfe135b4c31df04419ee07e3fb70df183b58d487bc7b660f478ff", func := "loop.example/g02081/laws.FnExactIsIntervalObstacle", spec := "fnExactIsIntervalObstacle", unfollowed := true, recurses := true, named := ["math/bits.deBruijn32tab", "math/bits.deBruijn64tab"], leaving := true, apart := false, laid := [("math/bits.deBruijn32tab", laid_math_bits_deBruijn32tab), ("math/bits.deBruijn64tab", laid_math_bits_deBruijn64tab)] }
def FnExactIsIntervalObstacleSaid : Prop := fnExactIsIntervalObstacleRow.holds Tryd.pinned (OpenSpec.ofChange fnExactIsIntervalObstacleSpec)

/-- ITS FALSE NEIGHBOUR: 'it returns false'. Refute it at one input. -/
def fnExactIsIntervalObstacleWrong : ChangeSpec := { name := "fnExactIsIntervalObstacle", fn := fun _ => fun
  | [d1, d2] => { results := [.lit (.bool false)], args := [d1, d2] }
  | _ => none }
def FnExactIsIntervalObstacleWrongFalsely : Prop := fnExactIsIntervalObstacleRow.holds Tryd.pinned (OpenSpec.ofChange fnExactIsIntervalObstacleWrong)

/-- 'laws.FnExactIsProperObstacle': WHATEVER THE INPUT: true; the input reads as it did. -/
def fnExactIsProperObstacleSpec : ChangeSpec := { name := "fnExactIsProperObstacle", fn := fun _ => fun
  | [d1, d2] => { results := [.lit (.bool true)], args := [d1, d2] }
  | _ => none }
def fnExactIsProperObstacleRow : OpenClaim := { program := "yteikiifjiapjaacdoor", sum := "a6333fbbf4dbfe135b4c31df04419ee07e3fb70df183b58d487bc7b660f478ff", func := "loop.example/g02081/laws.FnExactIsProperObstacle", spec := "fnExactIsProperObstacle", unfollowed := true, recurses := true, named := ["math/bits.deBruijn32tab", "math/bits.deBruijn64tab"], leaving := true, apart := false, laid := [("math/bits.deBruijn32tab", laid_math_bits_deBruijn32tab), ("math/bits.deBruijn64tab", laid_math_bits_deBruijn64tab)] }
def FnExactIsProperObstacleSaid : Prop := fnExactIsProperObstacleRow.holds Tryd.pinned (OpenSpec.ofChange fnExactIsProperObstacleSpec)

/-- ITS FALSE NEIGHBOUR: 'it returns false'. Refute it at one input. -/
def fnExactIsProperObstacleWrong : ChangeSpec := { name := "fnExactIsProperObstacle", fn := fun _ => fun
  | [d1, d2] => { results := [.lit (.bool false)], args := [d1, d2] }
  | _ => none }
def FnExactIsProperObstacleWrongFalsely : Prop := fnExactIsProperObstacleRow.holds Tryd.pinned (OpenSpec.ofChange fnExactIsProperObstacleWrong)

/-- 'laws.FnExactFindTriple': WHATEVER THE INPUT: true; the input reads as it did. -/
def fnExactFindTripleSpec : ChangeSpec := { name := "fnExactFindTriple", fn := fun _ => fun
  | [d] => { results := [.lit (.bool true)], args := [d] }
  | _ => none }
def fnExactFindTripleRow : OpenClaim := { program := "yteikiifjiapjaacdoor", sum := "a6333fbbf4dbfe135b4c31df04419ee07e3fb70df183b58d487bc7b660f478ff", func := "loop.example/g02081/laws.FnExactFindTriple", spec := "fnExactFindTriple", inPlace := ["internal/reflectlite.ValueOf", "(internal/reflectlite.Value).Type", "(internal/reflectlite.Value).IsNil", "internal/reflectlite.TypeOf", "(internal/reflectlite.Value).Elem", "(internal/reflectlite.Value).Set"], unfollowed := true, recurses := true, named := ["math/bits.deBruijn32tab", "math/bits.deBruijn64tab", "errors.errorType"], leaving := true, apart := false, laid := [("math/bits.deBruijn32tab", laid_math_bits_deBruijn32tab), ("math/bits.deBruijn64tab", laid_math_bits_deBruijn64tab), ("errors.errorType", laid_errors_errorType)] }
def FnExactFindTripleSaid : Prop := fnExactFindTripleRow.holds Tryd.pinned (OpenSpec.ofChange fnExactFindTripleSpec)

/-- ITS FALSE NEIGHBOUR: 'it returns false'. Refute it at one input. -/
def fnExactFindTripleWrong : ChangeSpec := { name := "fnExactFindTriple", fn := fun _ => fun
  | [d] => { results := [.lit (.bool false)], args := [d] }
  | _ => none }
def FnExactFindTripleWrongFalsely : Prop := fnExactFindTripleRow.holds Tryd.pinned (OpenSpec.ofChange fnExactFindTripleWrong)

/-- 'laws.FnExactIntervalObstacle': WHATEVER THE INPUT: true; the input reads as it did. -/
def fnExactIntervalObstacleSpec : ChangeSpec := { name := "fnExactIntervalObstacle", fn := fun _ => fun
  | [d] => { results := [.lit (.bool true)], args := [d] }
  | _ => none }
def fnExactIntervalObstacleRow : OpenClaim := { program := "yteikiifjiapjaacdoor", sum := "a6333fbbf4dbfe135b4c31df04419ee07e3fb70df183b58d487bc7b660f478ff", func := "loop.example/g02081/laws.FnExactIntervalObstacle", spec := "fnExactIntervalObstacle", inPlace := ["internal/reflectlite.ValueOf", "(internal/reflectlite.Value).Type", "(internal/reflectlite.Value).IsNil", "internal/reflectlite.TypeOf", "(internal/reflectlite.Value).Elem", "(internal/reflectlite.Value).Set"], unfollowed := true, recurses := true, named := ["math/bits.deBruijn32tab", "math/bits.deBruijn64tab", "errors.errorType"], leaving := true, apart := false, laid := [("math/bits.deBruijn32tab", laid_math_bits_deBruijn32tab), ("math/bits.deBruijn64tab", laid_math_bits_deBruijn64tab), ("errors.errorType", laid_errors_errorType)] }
def FnExactIntervalObstacleSaid : Prop := fnExactIntervalObstacleRow.holds Tryd.pinned (OpenSpec.ofChange fnExactIntervalObstacleSpec)

/-- ITS FALSE NEIGHBOUR: 'it returns false'. Refute it at one input. -/
def fnExactIntervalObstacleWrong : ChangeSpec := { name := "fnExactIntervalObstacle", fn := fun _ => fun
  | [d] => { results := [.lit (.bool false)], args := [d] }
  | _ => none }
def FnExactIntervalObstacleWrongFalsely : Prop := fnExactIntervalObstacleRow.holds Tryd.pinned (OpenSpec.ofChange fnExactIntervalObstacleWrong)

/-- 'laws.FnExactProperObstacle': WHATEVER THE INPUT: true; the input reads as it did. -/
def fnExactProperObstacleSpec : ChangeSpec := { name := "fnExactProperObstacle", fn := fun _ => fun
  | [d] => { results := [.lit (.bool true)], args := [d] }
  | _ => none }
def fnExactProperObstacleRow : OpenClaim := { program := "yteikiifjiapjaacdoor", sum := "a6333fbbf4dbfe135b4c31df04419ee07e3fb70df183b58d487bc7b660f478ff", func := "loop.example/g02081/laws.FnExactProperObstacle", spec := "fnExactProperObstacle", inPlace := ["internal/reflectlite.ValueOf", "(internal/reflectlite.Value).Type", "(internal/reflectlite.Value).IsNil", "internal/reflectlite.TypeOf", "(internal/reflectlite.Value).Elem", "(internal/reflectlite.Value).Set"], unfollowed := true, recurses := true, named := ["math/bits.deBruijn32tab", "math/bits.deBruijn64tab", "errors.errorType"], leaving := true, apart := false, laid := [("math/bits.deBruijn32tab", laid_math_bits_deBruijn32tab), ("math/bits.deBruijn64tab", laid_math_bits_deBruijn64tab), ("errors.errorType", laid_errors_errorType)] }
def FnExactProperObstacleSaid : Prop := fnExactProperObstacleRow.holds Tryd.pinned (OpenSpec.ofChange fnExactProperObstacleSpec)

/-- ITS FALSE NEIGHBOUR: 'it returns false'. Refute it at one input. -/
def fnExactProperObstacleWrong : ChangeSpec := { name := "fnExactProperObstacle", fn := fun _ => fun
  | [d] => { results := [.lit (.bool false)], args := [d] }
  | _ => none }
def FnExactProperObstacleWrongFalsely : Prop := fnExactProperObstacleRow.holds Tryd.pinned (OpenSpec.ofChange fnExactProperObstacleWrong)

/-- 'laws.FnExactMatchingOf': WHATEVER THE INPUT: true; the input reads as it did. -/
def fnExactMatchingOfSpec : ChangeSpec := { name := "fnExactMatchingOf", fn := fun _ => fun
  | [d] => { results := [.lit (.bool true)], args := [d] }
  | _ => none }
def fnExactMatchingOfRow : OpenClaim := { program := "yteikiifjiapjaacdoor", sum := "a6333fbbf4dbfe135b4c31df04419ee07e3fb70df183b58d487bc7b660f478ff", func := "loop.example/g02081/laws.FnExactMatchingOf", spec := "fnExactMatchingOf", unfollowed := true, recurses := true, named := ["math/bits.deBruijn32tab", "math/bits.deBruijn64tab"], leaving := true, apart := false, laid := [("math/bits.deBruijn32tab", laid_math_bits_deBruijn32tab), ("math/bits.deBruijn64tab", laid_math_bits_deBruijn64tab)] }
def FnExactMatchingOfSaid : Prop := fnExactMatchingOfRow.holds Tryd.pinned (OpenSpec.ofChange fnExactMatchingOfSpec)

/-- ITS FALSE NEIGHBOUR: 'it returns false'. Refute it at one input. -/
def fnExactMatchingOfWrong : ChangeSpec := { name := "fnExactMatchingOf", fn := fun _ => fun
  | [d] => { results := [.lit (.bool false)], args := [d] }
  | _ => none }
def FnExactMatchingOfWrongFalsely : Prop := fnExactMatchingOfRow.holds Tryd.pinned (OpenSpec.ofChange fnExactMatchingOfWrong)

/- THE SECOND FORM. 'bulk': how many values and letters a reading holds, each counted each time it is reached (what is shared counts as often as it is met; a slice's spare places count too). A statement '..UptoSaid' is the law's where the arguments, and the package variables that the reading takes, are together of bulk at most 1048576: NARROWER than '..Said'. Prove '..Said' where nothing that the law and all that it calls make is longer than what came in: it says more and counts as full. Else prove '..UptoSaid'. A law counts once. -/
mutual
def uptoBulk {H : Type} : DataW H → Nat
  | .lit (.string bytes) => bytes.length + 1
  | .lit _ => 1
  | .nil => 1
  | .ptr d => uptoBulk d + 1
  | .slice elems spare => uptoBulkAll elems + uptoBulkAll spare + 1
  | .agg parts => uptoBulkAll parts + 1
  | .iface _ d => uptoBulk d + 1
  | .map entries => uptoBulkEntries entries + 1
  | .held _ => 1
def uptoBulkAll {H : Type} : List (DataW H) → Nat
  | [] => 0
  | d :: r => uptoBulk d + uptoBulkAll r
def uptoBulkEntries {H : Type} : List (Lit × DataW H) → Nat
  | [] => 0
  | x :: r => uptoBulkEntry x + uptoBulkEntries r
def uptoBulkEntry {H : Type} : Lit × DataW H → Nat
  | (.string bytes, d) => bytes.length + uptoBulk d + 1
  | (_, d) => uptoBulk d + 1
 end
def uptoSmall : (H : Type) → List (DataW H) → Bool := fun _ ds => decide (uptoBulkAll ds ≤ 1048576)
def OpenSpec.upto (s : _root_.Go.ChangeSpec) : _root_.Go.OpenSpec := { _root_.Go.OpenSpec.ofChange s with cond := some uptoSmall }

/-- 'laws.FnExactQuotientOf', WHERE WHAT IT READS IS OF BULK AT MOST 1048576: true; the input reads as it did. -/
def fnExactQuotientOfUptoRow : OpenClaim := { program := "yteikiifjiapjaacdoor", sum := "a6333fbbf4dbfe135b4c31df04419ee07e3fb70df183b58d487bc7b660f478ff", func := "loop.example/g02081/laws.FnExactQuotientOf", spec := "fnExactQuotientOf", unfollowed := true, recurses := true, named := ["math/bits.deBruijn32tab", "math/bits.deBruijn64tab"], leaving := true, apart := false, laid := [("math/bits.deBruijn32tab", laid_math_bits_deBruijn32tab), ("math/bits.deBruijn64tab", laid_math_bits_deBruijn64tab)], narrowed := true }
def FnExactQuotientOfUptoSaid : Prop := fnExactQuotientOfUptoRow.holds Tryd.pinned (OpenSpec.upto fnExactQuotientOfSpec)

/-- 'laws.FnExactColorByOrder', WHERE WHAT IT READS IS OF BULK AT MOST 1048576: true; the input reads as it did. -/
def fnExactColorByOrderUptoRow : OpenClaim := { program := "yteikiifjiapjaacdoor", sum := "a6333fbbf4dbfe135b4c31df04419ee07e3fb70df183b58d487bc7b660f478ff", func := "loop.example/g02081/laws.FnExactColorByOrder", spec := "fnExactColorByOrder", unfollowed := true, recurses := true, named := ["math/bits.deBruijn32tab", "math/bits.deBruijn64tab"], leaving := true, apart := false, laid := [("math/bits.deBruijn32tab", laid_math_bits_deBruijn32tab), ("math/bits.deBruijn64tab", laid_math_bits_deBruijn64tab)], narrowed := true }
def FnExactColorByOrderUptoSaid : Prop := fnExactColorByOrderUptoRow.holds Tryd.pinned (OpenSpec.upto fnExactColorByOrderSpec)

/-- 'laws.FnExactSidesOf', WHERE WHAT IT READS IS OF BULK AT MOST 1048576: true; the input reads as it did. -/
def fnExactSidesOfUptoRow : OpenClaim := { program := "yteikiifjiapjaacdoor", sum := "a6333fbbf4dbfe135b4c31df04419ee07e3fb70df183b58d487bc7b660f478ff", func := "loop.example/g02081/laws.FnExactSidesOf", spec := "fnExactSidesOf", inPlace := ["(*sync.WaitGroup).Add", "internal/race.ReleaseMerge", "internal/race.Disable", "internal/race.Enable", "internal/synctest.IsInBubble", "internal/synctest.Associate[sync.WaitGroup]", "sync.fatal", "sync/atomic.OrUint64", "sync/atomic.AddUint64", "internal/race.Read", "sync/atomic.LoadUint64", "sync/atomic.StoreUint64", "internal/synctest.Disassociate[sync.WaitGroup]", "sync.runtime_Semrelease", "(*sync.WaitGroup).Done", "(*sync.WaitGroup).Wait", "internal/race.Acquire", "internal/synctest.IsAssociated[sync.WaitGroup]", "sync/atomic.CompareAndSwapUint64", "internal/race.Write", "sync.runtime_SemacquireWaitGroup"], unfollowed := true, recurses := true, named := ["math/bits.deBruijn32tab", "math/bits.deBruijn64tab"], leaving := true, apart := false, laid := [("math/bits.deBruijn32tab", laid_math_bits_deBruijn32tab), ("math/bits.deBruijn64tab", laid_math_bits_deBruijn64tab)], narrowed := true }
def FnExactSidesOfUptoSaid : Prop := fnExactSidesOfUptoRow.holds Tryd.pinned (OpenSpec.upto fnExactSidesOfSpec)

/-- 'laws.FnExactIsBipartite', WHERE WHAT IT READS IS OF BULK AT MOST 1048576: true; the input reads as it did. -/
def fnExactIsBipartiteUptoRow : OpenClaim := { program := "yteikiifjiapjaacdoor", sum := "a6333fbbf4dbfe135b4c31df04419ee07e3fb70df183b58d487bc7b660f478ff", func := "loop.example/g02081/laws.FnExactIsBipartite", spec := "fnExactIsBipartite", inPlace := ["(*sync.WaitGroup).Add", "internal/race.ReleaseMerge", "internal/race.Disable", "internal/race.Enable", "internal/synctest.IsInBubble", "internal/synctest.Associate[sync.WaitGroup]", "sync.fatal", "sync/atomic.OrUint64", "sync/atomic.AddUint64", "internal/race.Read", "sync/atomic.LoadUint64", "sync/atomic.StoreUint64", "internal/synctest.Disassociate[sync.WaitGroup]", "sync.runtime_Semrelease", "(*sync.WaitGroup).Done", "(*sync.WaitGroup).Wait", "internal/race.Acquire", "internal/synctest.IsAssociated[sync.WaitGroup]", "sync/atomic.CompareAndSwapUint64", "internal/race.Write", "sync.runtime_SemacquireWaitGroup"], unfollowed := true, recurses := true, named := ["math/bits.deBruijn32tab", "math/bits.deBruijn64tab"], leaving := true, apart := false, laid := [("math/bits.deBruijn32tab", laid_math_bits_deBruijn32tab), ("math/bits.deBruijn64tab", laid_math_bits_deBruijn64tab)], narrowed := true }
def FnExactIsBipartiteUptoSaid : Prop := fnExactIsBipartiteUptoRow.holds Tryd.pinned (OpenSpec.upto fnExactIsBipartiteSpec)

/-- 'laws.FnExactAvoidingPath', WHERE WHAT IT READS IS OF BULK AT MOST 1048576: true; the input reads as it did. -/
def fnExactAvoidingPathUptoRow : OpenClaim := { program := "yteikiifjiapjaacdoor", sum := "a6333fbbf4dbfe135b4c31df04419ee07e3fb70df183b58d487bc7b660f478ff", func := "loop.example/g02081/laws.FnExactAvoidingPath", spec := "fnExactAvoidingPath", unfollowed := true, recurses := true, named := ["math/bits.deBruijn32tab", "math/bits.deBruijn64tab"], leaving := true, apart := false, laid := [("math/bits.deBruijn32tab", laid_math_bits_deBruijn32tab), ("math/bits.deBruijn64tab", laid_math_bits_deBruijn64tab)], narrowed := true }
def FnExactAvoidingPathUptoSaid : Prop := fnExactAvoidingPathUptoRow.holds Tryd.pinned (OpenSpec.upto fnExactAvoidingPathSpec)

/-- 'laws.FnExactTriplePaths', WHERE WHAT IT READS IS OF BULK AT MOST 1048576: true; the input reads as it did. -/
def fnExactTriplePathsUptoRow : OpenClaim := { program := "yteikiifjiapjaacdoor", sum := "a6333fbbf4dbfe135b4c31df04419ee07e3fb70df183b58d487bc7b660f478ff", func := "loop.example/g02081/laws.FnExactTriplePaths", spec := "fnExactTriplePaths", unfollowed := true, recurses := true, named := ["math/bits.deBruijn32tab", "math/bits.deBruijn64tab"], leaving := true, apart := false, laid := [("math/bits.deBruijn32tab", laid_math_bits_deBruijn32tab), ("math/bits.deBruijn64tab", laid_math_bits_deBruijn64tab)], narrowed := true }
def FnExactTriplePathsUptoSaid : Prop := fnExactTriplePathsUptoRow.holds Tryd.pinned (OpenSpec.upto fnExactTriplePathsSpec)

/-- 'laws.FnExactIsTriple', WHERE WHAT IT READS IS OF BULK AT MOST 1048576: true; the input reads as it did. -/
def fnExactIsTripleUptoRow : OpenClaim := { program := "yteikiifjiapjaacdoor", sum := "a6333fbbf4dbfe135b4c31df04419ee07e3fb70df183b58d487bc7b660f478ff", func := "loop.example/g02081/laws.FnExactIsTriple", spec := "fnExactIsTriple", unfollowed := true, recurses := true, named := ["math/bits.deBruijn32tab", "math/bits.deBruijn64tab"], leaving := true, apart := false, laid := [("math/bits.deBruijn32tab", laid_math_bits_deBruijn32tab), ("math/bits.deBruijn64tab", laid_math_bits_deBruijn64tab)], narrowed := true }
def FnExactIsTripleUptoSaid : Prop := fnExactIsTripleUptoRow.holds Tryd.pinned (OpenSpec.upto fnExactIsTripleSpec)

/-- 'laws.FnExactIsIntervalObstacle', WHERE WHAT IT READS IS OF BULK AT MOST 1048576: true; the input reads as it did. -/
def fnExactIsIntervalObstacleUptoRow : OpenClaim := { program := "yteikiifjiapjaacdoor", sum := "a6333fbbf4dbfe135b4c31df04419ee07e3fb70df183b58d487bc7b660f478ff", func := "loop.example/g02081/laws.FnExactIsIntervalObstacle", spec := "fnExactIsIntervalObstacle", unfollowed := true, recurses := true, named := ["math/bits.deBruijn32tab", "math/bits.deBruijn64tab"], leaving := true, apart := false, laid := [("math/bits.deBruijn32tab", laid_math_bits_deBruijn32tab), ("math/bits.deBruijn64tab", laid_math_bits_deBruijn64tab)], narrowed := true }
def FnExactIsIntervalObstacleUptoSaid : Prop := fnExactIsIntervalObstacleUptoRow.holds Tryd.pinned (OpenSpec.upto fnExactIsIntervalObstacleSpec)

/-- 'laws.FnExactIsProperObstacle', WHERE WHAT IT READS IS OF BULK AT MOST 1048576: true; the input reads as it did. -/
def fnExactIsProperObstacleUptoRow : OpenClaim := { program := "yteikiifjiapjaacdoor", sum := "a6333fbbf4dbfe135b4c31df04419ee07e3fb70df183b58d487bc7b660f478ff", func := "loop.example/g02081/laws.FnExactIsProperObstacle", spec := "fnExactIsProperObstacle", unfollowed := true, recurses := true, named := ["math/bits.deBruijn32tab", "math/bits.deBruijn64tab"], leaving := true, apart := false, laid := [("math/bits.deBruijn32tab", laid_math_bits_deBruijn32tab), ("math/bits.deBruijn64tab", laid_math_bits_deBruijn64tab)], narrowed := true }
def FnExactIsProperObstacleUptoSaid : Prop := fnExactIsProperObstacleUptoRow.holds Tryd.pinned (OpenSpec.upto fnExactIsProperObstacleSpec)

/-- 'laws.FnExactFindTriple', WHERE WHAT IT READS IS OF BULK AT MOST 1048576: true; the input reads as it did. -/
def fnExactFindTripleUptoRow : OpenClaim := { program := "yteikiifjiapjaacdoor", sum := "a6333fbbf4dbfe135b4c31df04419ee07e3fb70df183b58d487bc7b660f478ff", func := "loop.example/g02081/laws.FnExactFindTriple", spec := "fnExactFindTriple", inPlace := ["internal/reflectlite.ValueOf", "(internal/reflectlite.Value).Type", "(internal/reflectlite.Value).IsNil", "internal/reflectlite.TypeOf", "(internal/reflectlite.Value).Elem", "(internal/reflectlite.Value).Set"], unfollowed := true, recurses := true, named := ["math/bits.deBruijn32tab", "math/bits.deBruijn64tab", "errors.errorType"], leaving := true, apart := false, laid := [("math/bits.deBruijn32tab", laid_math_bits_deBruijn32tab), ("math/bits.deBruijn64tab", laid_math_bits_deBruijn64tab), ("errors.errorType", laid_errors_errorType)], narrowed := true }
def FnExactFindTripleUptoSaid : Prop := fnExactFindTripleUptoRow.holds Tryd.pinned (OpenSpec.upto fnExactFindTripleSpec)

/-- 'laws.FnExactIntervalObstacle', WHERE WHAT IT READS IS OF BULK AT MOST 1048576: true; the input reads as it did. -/
def fnExactIntervalObstacleUptoRow : OpenClaim := { program := "yteikiifjiapjaacdoor", sum := "a6333fbbf4dbfe135b4c31df04419ee07e3fb70df183b58d487bc7b660f478ff", func := "loop.example/g02081/laws.FnExactIntervalObstacle", spec := "fnExactIntervalObstacle", inPlace := ["internal/reflectlite.ValueOf", "(internal/reflectlite.Value).Type", "(internal/reflectlite.Value).IsNil", "internal/reflectlite.TypeOf", "(internal/reflectlite.Value).Elem", "(internal/reflectlite.Value).Set"], unfollowed := true, recurses := true, named := ["math/bits.deBruijn32tab", "math/bits.deBruijn64tab", "errors.errorType"], leaving := true, apart := false, laid := [("math/bits.deBruijn32tab", laid_math_bits_deBruijn32tab), ("math/bits.deBruijn64tab", laid_math_bits_deBruijn64tab), ("errors.errorType", laid_errors_errorType)], narrowed := true }
def FnExactIntervalObstacleUptoSaid : Prop := fnExactIntervalObstacleUptoRow.holds Tryd.pinned (OpenSpec.upto fnExactIntervalObstacleSpec)

/-- 'laws.FnExactProperObstacle', WHERE WHAT IT READS IS OF BULK AT MOST 1048576: true; the input reads as it did. -/
def fnExactProperObstacleUptoRow : OpenClaim := { program := "yteikiifjiapjaacdoor", sum := "a6333fbbf4dbfe135b4c31df04419ee07e3fb70df183b58d487bc7b660f478ff", func := "loop.example/g02081/laws.FnExactProperObstacle", spec := "fnExactProperObstacle", inPlace := ["internal/reflectlite.ValueOf", "(internal/reflectlite.Value).Type", "(internal/reflectlite.Value).IsNil", "internal/reflectlite.TypeOf", "(internal/reflectlite.Value).Elem", "(internal/reflectlite.Value).Set"], unfollowed := true, recurses := true, named := ["math/bits.deBruijn32tab", "math/bits.deBruijn64tab", "errors.errorType"], leaving := true, apart := false, laid := [("math/bits.deBruijn32tab", laid_math_bits_deBruijn32tab), ("math/bits.deBruijn64tab", laid_math_bits_deBruijn64tab), ("errors.errorType", laid_errors_errorType)], narrowed := true }
def FnExactProperObstacleUptoSaid : Prop := fnExactProperObstacleUptoRow.holds Tryd.pinned (OpenSpec.upto fnExactProperObstacleSpec)

/-- 'laws.FnExactMatchingOf', WHERE WHAT IT READS IS OF BULK AT MOST 1048576: true; the input reads as it did. -/
def fnExactMatchingOfUptoRow : OpenClaim := { program := "yteikiifjiapjaacdoor", sum := "a6333fbbf4dbfe135b4c31df04419ee07e3fb70df183b58d487bc7b660f478ff", func := "loop.example/g02081/laws.FnExactMatchingOf", spec := "fnExactMatchingOf", unfollowed := true, recurses := true, named := ["math/bits.deBruijn32tab", "math/bits.deBruijn64tab"], leaving := true, apart := false, laid := [("math/bits.deBruijn32tab", laid_math_bits_deBruijn32tab), ("math/bits.deBruijn64tab", laid_math_bits_deBruijn64tab)], narrowed := true }
def FnExactMatchingOfUptoSaid : Prop := fnExactMatchingOfUptoRow.holds Tryd.pinned (OpenSpec.upto fnExactMatchingOfSpec)

end Rows
end Go.Proofs.YteikiifjiapjaacDoor
