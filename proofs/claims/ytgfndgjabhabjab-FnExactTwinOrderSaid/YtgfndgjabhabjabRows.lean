/-
  No cell of these rows narrows 'for every input' (looked for: loops, veiled, ifaces, maps, wideKeys, modest, calm, conditions, laid).
  DERIVED. THE GIVEN ROWS OF THIS SEAT. 12 by the template 'for every input the law returns true; each argument reads behind the call as it read before'; 0 by the template 'total and deterministic' (their statements: YtgfndgjabhabjabTotals.lean).
  GIVEN WITH THE SEED: the statements are not yours to turn. If you find one false, say at which input.
  Laid BY PROGRAM, IN A SANDBOX (cutbox-rows.mjs): the forced cells as the released guide's own fill.sh prints them over the translation 14966280dcd39d58… (all of the seat's roots in one cut). By AI agents, Wed Nov 11 2026. No macro, syntax, notation, axiom, sorry.
-/
import Derived.Test.YtgfndgjabhabjabChecked
import GoSem.Claim
import GoSem.ClaimJoined
import GoSem.ClaimMapViews
import Derived.JoinedTies
import Derived.KernelRfl
namespace Go.Proofs.Ytgfndgjabhabjab
/- THE CELL 'sum', in the pinned program and in every row, IS THE sha256 OF THE DUMP (.gsa) THAT YtgfndgjabhabjabProg.lean LOADS. Nothing in Lean hashes anything: it is a label: what it is worth is what the hold of that sum in a sandbox is worth. -/
noncomputable def Try.pinned : Pinned := { name := "ytgfndgjabhabjab", sum := "14966280dcd39d58d34a8f78a653589d043cf7848a9cc9ed6bd47c6971853848", checked := Try.checked }
namespace Rows
def none {H : Type} : Left H := { results := [], args := [] }

/-- 'laws.FnExactEliminationOf': WHATEVER THE INPUT: true; the input reads as it did. -/
def fnExactEliminationOfSpec : ChangeSpec := { name := "fnExactEliminationOf", fn := fun _ => fun
  | [d] => { results := [.lit (.bool true)], args := [d] }
  | _ => none }
def fnExactEliminationOfRow : OpenClaim := { program := "ytgfndgjabhabjab", sum := "14966280dcd39d58d34a8f78a653589d043cf7848a9cc9ed6bd47c6971853848", func := "loop.example/g02081/laws.FnExactEliminationOf", spec := "fnExactEliminationOf", unfollowed := true, recurses := true, apart := false }
def FnExactEliminationOfSaid : Prop := fnExactEliminationOfRow.holds Try.pinned (OpenSpec.ofChange fnExactEliminationOfSpec)

/-- ITS FALSE NEIGHBOUR: 'it returns false'. Refute it at one input. -/
def fnExactEliminationOfWrong : ChangeSpec := { name := "fnExactEliminationOf", fn := fun _ => fun
  | [d] => { results := [.lit (.bool false)], args := [d] }
  | _ => none }
def FnExactEliminationOfWrongFalsely : Prop := fnExactEliminationOfRow.holds Try.pinned (OpenSpec.ofChange fnExactEliminationOfWrong)

/-- 'laws.FnExactIsChordal': WHATEVER THE INPUT: true; the input reads as it did. -/
def fnExactIsChordalSpec : ChangeSpec := { name := "fnExactIsChordal", fn := fun _ => fun
  | [d] => { results := [.lit (.bool true)], args := [d] }
  | _ => none }
def fnExactIsChordalRow : OpenClaim := { program := "ytgfndgjabhabjab", sum := "14966280dcd39d58d34a8f78a653589d043cf7848a9cc9ed6bd47c6971853848", func := "loop.example/g02081/laws.FnExactIsChordal", spec := "fnExactIsChordal", unfollowed := true, recurses := true, apart := false }
def FnExactIsChordalSaid : Prop := fnExactIsChordalRow.holds Try.pinned (OpenSpec.ofChange fnExactIsChordalSpec)

/-- ITS FALSE NEIGHBOUR: 'it returns false'. Refute it at one input. -/
def fnExactIsChordalWrong : ChangeSpec := { name := "fnExactIsChordal", fn := fun _ => fun
  | [d] => { results := [.lit (.bool false)], args := [d] }
  | _ => none }
def FnExactIsChordalWrongFalsely : Prop := fnExactIsChordalRow.holds Try.pinned (OpenSpec.ofChange fnExactIsChordalWrong)

/-- 'laws.FnExactIsCompletion': WHATEVER THE INPUT: true; the input reads as it did. -/
def fnExactIsCompletionSpec : ChangeSpec := { name := "fnExactIsCompletion", fn := fun _ => fun
  | [d1, d2] => { results := [.lit (.bool true)], args := [d1, d2] }
  | _ => none }
def fnExactIsCompletionRow : OpenClaim := { program := "ytgfndgjabhabjab", sum := "14966280dcd39d58d34a8f78a653589d043cf7848a9cc9ed6bd47c6971853848", func := "loop.example/g02081/laws.FnExactIsCompletion", spec := "fnExactIsCompletion", unfollowed := true, recurses := true, apart := false }
def FnExactIsCompletionSaid : Prop := fnExactIsCompletionRow.holds Try.pinned (OpenSpec.ofChange fnExactIsCompletionSpec)

/-- ITS FALSE NEIGHBOUR: 'it returns false'. Refute it at one input. -/
def fnExactIsCompletionWrong : ChangeSpec := { name := "fnExactIsCompletion", fn := fun _ => fun
  | [d1, d2] => { results := [.lit (.bool false)], args := [d1, d2] }
  | _ => none }
def FnExactIsCompletionWrongFalsely : Prop := fnExactIsCompletionRow.holds Try.pinned (OpenSpec.ofChange fnExactIsCompletionWrong)

/-- 'laws.FnExactTwinOrder': WHATEVER THE INPUT: true; the input reads as it did. -/
def fnExactTwinOrderSpec : ChangeSpec := { name := "fnExactTwinOrder", fn := fun _ => fun
  | [d] => { results := [.lit (.bool true)], args := [d] }
  | _ => none }
def fnExactTwinOrderRow : OpenClaim := { program := "ytgfndgjabhabjab", sum := "14966280dcd39d58d34a8f78a653589d043cf7848a9cc9ed6bd47c6971853848", func := "loop.example/g02081/laws.FnExactTwinOrder", spec := "fnExactTwinOrder", unfollowed := true, recurses := true, apart := false }
def FnExactTwinOrderSaid : Prop := fnExactTwinOrderRow.holds Try.pinned (OpenSpec.ofChange fnExactTwinOrderSpec)

/-- ITS FALSE NEIGHBOUR: 'it returns false'. Refute it at one input. -/
def fnExactTwinOrderWrong : ChangeSpec := { name := "fnExactTwinOrder", fn := fun _ => fun
  | [d] => { results := [.lit (.bool false)], args := [d] }
  | _ => none }
def FnExactTwinOrderWrongFalsely : Prop := fnExactTwinOrderRow.holds Try.pinned (OpenSpec.ofChange fnExactTwinOrderWrong)

/-- 'laws.FnExactMaximalCliques': WHATEVER THE INPUT: true; the input reads as it did. -/
def fnExactMaximalCliquesSpec : ChangeSpec := { name := "fnExactMaximalCliques", fn := fun _ => fun
  | [d] => { results := [.lit (.bool true)], args := [d] }
  | _ => none }
def fnExactMaximalCliquesRow : OpenClaim := { program := "ytgfndgjabhabjab", sum := "14966280dcd39d58d34a8f78a653589d043cf7848a9cc9ed6bd47c6971853848", func := "loop.example/g02081/laws.FnExactMaximalCliques", spec := "fnExactMaximalCliques", unfollowed := true, recurses := true, apart := false }
def FnExactMaximalCliquesSaid : Prop := fnExactMaximalCliquesRow.holds Try.pinned (OpenSpec.ofChange fnExactMaximalCliquesSpec)

/-- ITS FALSE NEIGHBOUR: 'it returns false'. Refute it at one input. -/
def fnExactMaximalCliquesWrong : ChangeSpec := { name := "fnExactMaximalCliques", fn := fun _ => fun
  | [d] => { results := [.lit (.bool false)], args := [d] }
  | _ => none }
def FnExactMaximalCliquesWrongFalsely : Prop := fnExactMaximalCliquesRow.holds Try.pinned (OpenSpec.ofChange fnExactMaximalCliquesWrong)

/-- 'laws.FnExactLargestClique': WHATEVER THE INPUT: true; the input reads as it did. -/
def fnExactLargestCliqueSpec : ChangeSpec := { name := "fnExactLargestClique", fn := fun _ => fun
  | [d] => { results := [.lit (.bool true)], args := [d] }
  | _ => none }
def fnExactLargestCliqueRow : OpenClaim := { program := "ytgfndgjabhabjab", sum := "14966280dcd39d58d34a8f78a653589d043cf7848a9cc9ed6bd47c6971853848", func := "loop.example/g02081/laws.FnExactLargestClique", spec := "fnExactLargestClique", unfollowed := true, recurses := true, apart := false }
def FnExactLargestCliqueSaid : Prop := fnExactLargestCliqueRow.holds Try.pinned (OpenSpec.ofChange fnExactLargestCliqueSpec)

/-- ITS FALSE NEIGHBOUR: 'it returns false'. Refute it at one input. -/
def fnExactLargestCliqueWrong : ChangeSpec := { name := "fnExactLargestClique", fn := fun _ => fun
  | [d] => { results := [.lit (.bool false)], args := [d] }
  | _ => none }
def FnExactLargestCliqueWrongFalsely : Prop := fnExactLargestCliqueRow.holds Try.pinned (OpenSpec.ofChange fnExactLargestCliqueWrong)

/-- 'laws.FnExactCliqueNumber': WHATEVER THE INPUT: true; the input reads as it did. -/
def fnExactCliqueNumberSpec : ChangeSpec := { name := "fnExactCliqueNumber", fn := fun _ => fun
  | [d] => { results := [.lit (.bool true)], args := [d] }
  | _ => none }
def fnExactCliqueNumberRow : OpenClaim := { program := "ytgfndgjabhabjab", sum := "14966280dcd39d58d34a8f78a653589d043cf7848a9cc9ed6bd47c6971853848", func := "loop.example/g02081/laws.FnExactCliqueNumber", spec := "fnExactCliqueNumber", unfollowed := true, recurses := true, apart := false }
def FnExactCliqueNumberSaid : Prop := fnExactCliqueNumberRow.holds Try.pinned (OpenSpec.ofChange fnExactCliqueNumberSpec)

/-- ITS FALSE NEIGHBOUR: 'it returns false'. Refute it at one input. -/
def fnExactCliqueNumberWrong : ChangeSpec := { name := "fnExactCliqueNumber", fn := fun _ => fun
  | [d] => { results := [.lit (.bool false)], args := [d] }
  | _ => none }
def FnExactCliqueNumberWrongFalsely : Prop := fnExactCliqueNumberRow.holds Try.pinned (OpenSpec.ofChange fnExactCliqueNumberWrong)

/-- 'laws.FnExactLargestIndependent': WHATEVER THE INPUT: true; the input reads as it did. -/
def fnExactLargestIndependentSpec : ChangeSpec := { name := "fnExactLargestIndependent", fn := fun _ => fun
  | [d] => { results := [.lit (.bool true)], args := [d] }
  | _ => none }
def fnExactLargestIndependentRow : OpenClaim := { program := "ytgfndgjabhabjab", sum := "14966280dcd39d58d34a8f78a653589d043cf7848a9cc9ed6bd47c6971853848", func := "loop.example/g02081/laws.FnExactLargestIndependent", spec := "fnExactLargestIndependent", unfollowed := true, recurses := true, apart := false }
def FnExactLargestIndependentSaid : Prop := fnExactLargestIndependentRow.holds Try.pinned (OpenSpec.ofChange fnExactLargestIndependentSpec)

/-- ITS FALSE NEIGHBOUR: 'it returns false'. Refute it at one input. -/
def fnExactLargestIndependentWrong : ChangeSpec := { name := "fnExactLargestIndependent", fn := fun _ => fun
  | [d] => { results := [.lit (.bool false)], args := [d] }
  | _ => none }
def FnExactLargestIndependentWrongFalsely : Prop := fnExactLargestIndependentRow.holds Try.pinned (OpenSpec.ofChange fnExactLargestIndependentWrong)

/-- 'laws.FnExactThresholdOrder': WHATEVER THE INPUT: true; the input reads as it did. -/
def fnExactThresholdOrderSpec : ChangeSpec := { name := "fnExactThresholdOrder", fn := fun _ => fun
  | [d] => { results := [.lit (.bool true)], args := [d] }
  | _ => none }
def fnExactThresholdOrderRow : OpenClaim := { program := "ytgfndgjabhabjab", sum := "14966280dcd39d58d34a8f78a653589d043cf7848a9cc9ed6bd47c6971853848", func := "loop.example/g02081/laws.FnExactThresholdOrder", spec := "fnExactThresholdOrder", apart := false }
def FnExactThresholdOrderSaid : Prop := fnExactThresholdOrderRow.holds Try.pinned (OpenSpec.ofChange fnExactThresholdOrderSpec)

/-- ITS FALSE NEIGHBOUR: 'it returns false'. Refute it at one input. -/
def fnExactThresholdOrderWrong : ChangeSpec := { name := "fnExactThresholdOrder", fn := fun _ => fun
  | [d] => { results := [.lit (.bool false)], args := [d] }
  | _ => none }
def FnExactThresholdOrderWrongFalsely : Prop := fnExactThresholdOrderRow.holds Try.pinned (OpenSpec.ofChange fnExactThresholdOrderWrong)

/-- 'laws.FnExactIsThreshold': WHATEVER THE INPUT: true; the input reads as it did. -/
def fnExactIsThresholdSpec : ChangeSpec := { name := "fnExactIsThreshold", fn := fun _ => fun
  | [d] => { results := [.lit (.bool true)], args := [d] }
  | _ => none }
def fnExactIsThresholdRow : OpenClaim := { program := "ytgfndgjabhabjab", sum := "14966280dcd39d58d34a8f78a653589d043cf7848a9cc9ed6bd47c6971853848", func := "loop.example/g02081/laws.FnExactIsThreshold", spec := "fnExactIsThreshold", apart := false }
def FnExactIsThresholdSaid : Prop := fnExactIsThresholdRow.holds Try.pinned (OpenSpec.ofChange fnExactIsThresholdSpec)

/-- ITS FALSE NEIGHBOUR: 'it returns false'. Refute it at one input. -/
def fnExactIsThresholdWrong : ChangeSpec := { name := "fnExactIsThreshold", fn := fun _ => fun
  | [d] => { results := [.lit (.bool false)], args := [d] }
  | _ => none }
def FnExactIsThresholdWrongFalsely : Prop := fnExactIsThresholdRow.holds Try.pinned (OpenSpec.ofChange fnExactIsThresholdWrong)

/-- 'laws.FnExactSimpleOrder': WHATEVER THE INPUT: true; the input reads as it did. -/
def fnExactSimpleOrderSpec : ChangeSpec := { name := "fnExactSimpleOrder", fn := fun _ => fun
  | [d] => { results := [.lit (.bool true)], args := [d] }
  | _ => none }
def fnExactSimpleOrderRow : OpenClaim := { program := "ytgfndgjabhabjab", sum := "14966280dcd39d58d34a8f78a653589d043cf7848a9cc9ed6bd47c6971853848", func := "loop.example/g02081/laws.FnExactSimpleOrder", spec := "fnExactSimpleOrder", unfollowed := true, recurses := true, apart := false }
def FnExactSimpleOrderSaid : Prop := fnExactSimpleOrderRow.holds Try.pinned (OpenSpec.ofChange fnExactSimpleOrderSpec)

/-- ITS FALSE NEIGHBOUR: 'it returns false'. Refute it at one input. -/
def fnExactSimpleOrderWrong : ChangeSpec := { name := "fnExactSimpleOrder", fn := fun _ => fun
  | [d] => { results := [.lit (.bool false)], args := [d] }
  | _ => none }
def FnExactSimpleOrderWrongFalsely : Prop := fnExactSimpleOrderRow.holds Try.pinned (OpenSpec.ofChange fnExactSimpleOrderWrong)

/-- 'laws.FnExactIsStronglyChordal': WHATEVER THE INPUT: true; the input reads as it did. -/
def fnExactIsStronglyChordalSpec : ChangeSpec := { name := "fnExactIsStronglyChordal", fn := fun _ => fun
  | [d] => { results := [.lit (.bool true)], args := [d] }
  | _ => none }
def fnExactIsStronglyChordalRow : OpenClaim := { program := "ytgfndgjabhabjab", sum := "14966280dcd39d58d34a8f78a653589d043cf7848a9cc9ed6bd47c6971853848", func := "loop.example/g02081/laws.FnExactIsStronglyChordal", spec := "fnExactIsStronglyChordal", unfollowed := true, recurses := true, apart := false }
def FnExactIsStronglyChordalSaid : Prop := fnExactIsStronglyChordalRow.holds Try.pinned (OpenSpec.ofChange fnExactIsStronglyChordalSpec)

/-- ITS FALSE NEIGHBOUR: 'it returns false'. Refute it at one input. -/
def fnExactIsStronglyChordalWrong : ChangeSpec := { name := "fnExactIsStronglyChordal", fn := fun _ => fun
  | [d] => { results := [.lit (.bool false)], args := [d] }
  | _ => none }
def FnExactIsStronglyChordalWrongFalsely : Prop := fnExactIsStronglyChordalRow.holds Try.pinned (OpenSpec.ofChange fnExactIsStronglyChordalWrong)

/- THE SECOND FORM. 'bulk': how many values and letters a reading holds, each counted each time it is reached (what is shared counts as often as it is met; a slice's spare places count too). A statement '..UptoSaid' is the law's where the arguments, and the package variables that the reading takes, are together of bulk at most 1048576: NARROWER than '..Said'. Prove '..Said' where nothing that the law and all that it calls make is longer than what came in: it says more and counts as full. Else prove '..UptoSaid'. A law counts once. -/
mutual
def uptoBulk {H : Type} : DataW H → Nat
  | .lit (.string bytes) => bytes.length + 1
  | .lit _ => 1
  | .nil => 1
  | .ptr d => uptoBulk d + 1
  | .slice elems spare => uptoBulkAll elems + uptoBulkAll spare + 1
  | .agg parts => uptoBulkAll parts + 1
  | .iface _ d => uptoBulk d + 1
  | .map entries => uptoBulkEntries entries + 1
  | .held _ => 1
def uptoBulkAll {H : Type} : List (DataW H) → Nat
  | [] => 0
  | d :: r => uptoBulk d + uptoBulkAll r
def uptoBulkEntries {H : Type} : List (Lit × DataW H) → Nat
  | [] => 0
  | x :: r => uptoBulkEntry x + uptoBulkEntries r
def uptoBulkEntry {H : Type} : Lit × DataW H → Nat
  | (.string bytes, d) => bytes.length + uptoBulk d + 1
  | (_, d) => uptoBulk d + 1
 end
def uptoSmall : (H : Type) → List (DataW H) → Bool := fun _ ds => decide (uptoBulkAll ds ≤ 1048576)
def OpenSpec.upto (s : _root_.Go.ChangeSpec) : _root_.Go.OpenSpec := { _root_.Go.OpenSpec.ofChange s with cond := some uptoSmall }

/-- 'laws.FnExactEliminationOf', WHERE WHAT IT READS IS OF BULK AT MOST 1048576: true; the input reads as it did. -/
def fnExactEliminationOfUptoRow : OpenClaim := { program := "ytgfndgjabhabjab", sum := "14966280dcd39d58d34a8f78a653589d043cf7848a9cc9ed6bd47c6971853848", func := "loop.example/g02081/laws.FnExactEliminationOf", spec := "fnExactEliminationOf", unfollowed := true, recurses := true, apart := false, narrowed := true }
def FnExactEliminationOfUptoSaid : Prop := fnExactEliminationOfUptoRow.holds Try.pinned (OpenSpec.upto fnExactEliminationOfSpec)

/-- 'laws.FnExactIsChordal', WHERE WHAT IT READS IS OF BULK AT MOST 1048576: true; the input reads as it did. -/
def fnExactIsChordalUptoRow : OpenClaim := { program := "ytgfndgjabhabjab", sum := "14966280dcd39d58d34a8f78a653589d043cf7848a9cc9ed6bd47c6971853848", func := "loop.example/g02081/laws.FnExactIsChordal", spec := "fnExactIsChordal", unfollowed := true, recurses := true, apart := false, narrowed := true }
def FnExactIsChordalUptoSaid : Prop := fnExactIsChordalUptoRow.holds Try.pinned (OpenSpec.upto fnExactIsChordalSpec)

/-- 'laws.FnExactIsCompletion', WHERE WHAT IT READS IS OF BULK AT MOST 1048576: true; the input reads as it did. -/
def fnExactIsCompletionUptoRow : OpenClaim := { program := "ytgfndgjabhabjab", sum := "14966280dcd39d58d34a8f78a653589d043cf7848a9cc9ed6bd47c6971853848", func := "loop.example/g02081/laws.FnExactIsCompletion", spec := "fnExactIsCompletion", unfollowed := true, recurses := true, apart := false, narrowed := true }
def FnExactIsCompletionUptoSaid : Prop := fnExactIsCompletionUptoRow.holds Try.pinned (OpenSpec.upto fnExactIsCompletionSpec)

/-- 'laws.FnExactTwinOrder', WHERE WHAT IT READS IS OF BULK AT MOST 1048576: true; the input reads as it did. -/
def fnExactTwinOrderUptoRow : OpenClaim := { program := "ytgfndgjabhabjab", sum := "14966280dcd39d58d34a8f78a653589d043cf7848a9cc9ed6bd47c6971853848", func := "loop.example/g02081/laws.FnExactTwinOrder", spec := "fnExactTwinOrder", unfollowed := true, recurses := true, apart := false, narrowed := true }
def FnExactTwinOrderUptoSaid : Prop := fnExactTwinOrderUptoRow.holds Try.pinned (OpenSpec.upto fnExactTwinOrderSpec)

/-- 'laws.FnExactMaximalCliques', WHERE WHAT IT READS IS OF BULK AT MOST 1048576: true; the input reads as it did. -/
def fnExactMaximalCliquesUptoRow : OpenClaim := { program := "ytgfndgjabhabjab", sum := "14966280dcd39d58d34a8f78a653589d043cf7848a9cc9ed6bd47c6971853848", func := "loop.example/g02081/laws.FnExactMaximalCliques", spec := "fnExactMaximalCliques", unfollowed := true, recurses := true, apart := false, narrowed := true }
def FnExactMaximalCliquesUptoSaid : Prop := fnExactMaximalCliquesUptoRow.holds Try.pinned (OpenSpec.upto fnExactMaximalCliquesSpec)

/-- 'laws.FnExactLargestClique', WHERE WHAT IT READS IS OF BULK AT MOST 1048576: true; the input reads as it did. -/
def fnExactLargestCliqueUptoRow : OpenClaim := { program := "ytgfndgjabhabjab", sum := "14966280dcd39d58d34a8f78a653589d043cf7848a9cc9ed6bd47c6971853848", func := "loop.example/g02081/laws.FnExactLargestClique", spec := "fnExactLargestClique", unfollowed := true, recurses := true, apart := false, narrowed := true }
def FnExactLargestCliqueUptoSaid : Prop := fnExactLargestCliqueUptoRow.holds Try.pinned (OpenSpec.upto fnExactLargestCliqueSpec)

/-- 'laws.FnExactCliqueNumber', WHERE WHAT IT READS IS OF BULK AT MOST 1048576: true; the input reads as it did. -/
def fnExactCliqueNumberUptoRow : OpenClaim := { program := "ytgfndgjabhabjab", sum := "14966280dcd39d58d34a8f78a653589d043cf7848a9cc9ed6bd47c6971853848", func := "loop.example/g02081/laws.FnExactCliqueNumber", spec := "fnExactCliqueNumber", unfollowed := true, recurses := true, apart := false, narrowed := true }
def FnExactCliqueNumberUptoSaid : Prop := fnExactCliqueNumberUptoRow.holds Try.pinned (OpenSpec.upto fnExactCliqueNumberSpec)

/-- 'laws.FnExactLargestIndependent', WHERE WHAT IT READS IS OF BULK AT MOST 1048576: true; the input reads as it did. -/
def fnExactLargestIndependentUptoRow : OpenClaim := { program := "ytgfndgjabhabjab", sum := "14966280dcd39d58d34a8f78a653589d043cf7848a9cc9ed6bd47c6971853848", func := "loop.example/g02081/laws.FnExactLargestIndependent", spec := "fnExactLargestIndependent", unfollowed := true, recurses := true, apart := false, narrowed := true }
def FnExactLargestIndependentUptoSaid : Prop := fnExactLargestIndependentUptoRow.holds Try.pinned (OpenSpec.upto fnExactLargestIndependentSpec)

/-- 'laws.FnExactThresholdOrder', WHERE WHAT IT READS IS OF BULK AT MOST 1048576: true; the input reads as it did. -/
def fnExactThresholdOrderUptoRow : OpenClaim := { program := "ytgfndgjabhabjab", sum := "14966280dcd39d58d34a8f78a653589d043cf7848a9cc9ed6bd47c6971853848", func := "loop.example/g02081/laws.FnExactThresholdOrder", spec := "fnExactThresholdOrder", apart := false, narrowed := true }
def FnExactThresholdOrderUptoSaid : Prop := fnExactThresholdOrderUptoRow.holds Try.pinned (OpenSpec.upto fnExactThresholdOrderSpec)

/-- 'laws.FnExactIsThreshold', WHERE WHAT IT READS IS OF BULK AT MOST 1048576: true; the input reads as it did. -/
def fnExactIsThresholdUptoRow : OpenClaim := { program := "ytgfndgjabhabjab", sum := "14966280dcd39d58d34a8f78a653589d043cf7848a9cc9ed6bd47c6971853848", func := "loop.example/g02081/laws.FnExactIsThreshold", spec := "fnExactIsThreshold", apart := false, narrowed := true }
def FnExactIsThresholdUptoSaid : Prop := fnExactIsThresholdUptoRow.holds Try.pinned (OpenSpec.upto fnExactIsThresholdSpec)

/-- 'laws.FnExactSimpleOrder', WHERE WHAT IT READS IS OF BULK AT MOST 1048576: true; the input reads as it did. -/
def fnExactSimpleOrderUptoRow : OpenClaim := { program := "ytgfndgjabhabjab", sum := "14966280dcd39d58d34a8f78a653589d043cf7848a9cc9ed6bd47c6971853848", func := "loop.example/g02081/laws.FnExactSimpleOrder", spec := "fnExactSimpleOrder", unfollowed := true, recurses := true, apart := false, narrowed := true }
def FnExactSimpleOrderUptoSaid : Prop := fnExactSimpleOrderUptoRow.holds Try.pinned (OpenSpec.upto fnExactSimpleOrderSpec)

/-- 'laws.FnExactIsStronglyChordal', WHERE WHAT IT READS IS OF BULK AT MOST 1048576: true; the input reads as it did. -/
def fnExactIsStronglyChordalUptoRow : OpenClaim := { program := "ytgfndgjabhabjab", sum := "14966280dcd39d58d34a8f78a653589d043cf7848a9cc9ed6bd47c6971853848", func := "loop.example/g02081/laws.FnExactIsStronglyChordal", spec := "fnExactIsStronglyChordal", unfollowed := true, recurses := true, apart := false, narrowed := true }
def FnExactIsStronglyChordalUptoSaid : Prop := fnExactIsStronglyChordalUptoRow.holds Try.pinned (OpenSpec.upto fnExactIsStronglyChordalSpec)

end Rows
end Go.Proofs.Ytgfndgjabhabjab
