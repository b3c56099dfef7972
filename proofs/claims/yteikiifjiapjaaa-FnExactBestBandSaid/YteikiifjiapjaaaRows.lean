/-
  No cell of these rows narrows 'for every input' (looked for: loops, veiled, ifaces, maps, wideKeys, modest, calm, conditions, laid).
  DERIVED. THE GIVEN ROWS OF THIS SEAT. 13 by the template 'for every input the law returns true; each argument reads behind the call as it read before'; 0 by the template 'total and deterministic' (their statements: YteikiifjiapjaaaTotals.lean).
  GIVEN WITH THE SEED: the statements are not yours to turn. If you find one false, say at which input.
  Laid BY PROGRAM, IN A SANDBOX (cutbox-rows.mjs): the forced cells as the released guide's own fill.sh prints them over the translation 6f4f786cfbbb7510… (all of the seat's roots in one cut). By AI agents, Wed Nov 11 2026. No macro, syntax, notation, axiom, sorry.
-/
import Derived.Test.YteikiifjiapjaaaChecked
import GoSem.Claim
import GoSem.ClaimJoined
import GoSem.ClaimMapViews
import Derived.JoinedTies
import Derived.KernelRfl
namespace Go.Proofs.Yteikiifjiapjaaa
/- THE CELL 'sum', in the pinned program and in every row, IS THE sha256 OF THE DUMP (.gsa) THAT YteikiifjiapjaaaProg.lean LOADS. Nothing in Lean hashes anything: it is a label: what it is worth is what the hold of that sum in a sandbox is worth. -/
noncomputable def Try.pinned : Pinned := { name := "yteikiifjiapjaaa", sum := "6f4f786cfbbb7510b407dbd52d0e63b8ad305cf952e901f01bfc5da80bc2f34b", checked := Try.checked }
namespace Rows
def none {H : Type} : Left H := { results := [], args := [] }

/-- 'laws.FnExactEliminationOf': WHATEVER THE INPUT: true; the input reads as it did. -/
def fnExactEliminationOfSpec : ChangeSpec := { name := "fnExactEliminationOf", fn := fun _ => fun
  | [d] => { results := [.lit (.bool true)], args := [d] }
  | _ => none }
def fnExactEliminationOfRow : OpenClaim := { program := "yteikiifjiapjaaa", sum := "6f4f786cfbbb7510b407dbd52d0e63b8ad305cf952e901f01bfc5da80bc2f34b", func := "loop.example/g02081/laws.FnExactEliminationOf", spec := "fnExactEliminationOf", unfollowed := true, recurses := true, apart := false }
def FnExactEliminationOfSaid : Prop := fnExactEliminationOfRow.holds Try.pinned (OpenSpec.ofChange fnExactEliminationOfSpec)

/-- ITS FALSE NEIGHBOUR: 'it returns false'. Refute it at one input. -/
def fnExactEliminationOfWrong : ChangeSpec := { name := "fnExactEliminationOf", fn := fun _ => fun
  | [d] => { results := [.lit (.bool false)], args := [d] }
  | _ => none }
def FnExactEliminationOfWrongFalsely : Prop := fnExactEliminationOfRow.holds Try.pinned (OpenSpec.ofChange fnExactEliminationOfWrong)

/-- 'laws.FnExactIsChordal': WHATEVER THE INPUT: true; the input reads as it did. -/
def fnExactIsChordalSpec : ChangeSpec := { name := "fnExactIsChordal", fn := fun _ => fun
  | [d] => { results := [.lit (.bool true)], args := [d] }
  | _ => none }
def fnExactIsChordalRow : OpenClaim := { program := "yteikiifjiapjaaa", sum := "6f4f786cfbbb7510b407dbd52d0e63b8ad305cf952e901f01bfc5da80bc2f34b", func := "loop.example/g02081/laws.FnExactIsChordal", spec := "fnExactIsChordal", unfollowed := true, recurses := true, apart := false }
def FnExactIsChordalSaid : Prop := fnExactIsChordalRow.holds Try.pinned (OpenSpec.ofChange fnExactIsChordalSpec)

/-- ITS FALSE NEIGHBOUR: 'it returns false'. Refute it at one input. -/
def fnExactIsChordalWrong : ChangeSpec := { name := "fnExactIsChordal", fn := fun _ => fun
  | [d] => { results := [.lit (.bool false)], args := [d] }
  | _ => none }
def FnExactIsChordalWrongFalsely : Prop := fnExactIsChordalRow.holds Try.pinned (OpenSpec.ofChange fnExactIsChordalWrong)

/-- 'laws.FnExactIsCompletion': WHATEVER THE INPUT: true; the input reads as it did. -/
def fnExactIsCompletionSpec : ChangeSpec := { name := "fnExactIsCompletion", fn := fun _ => fun
  | [d1, d2] => { results := [.lit (.bool true)], args := [d1, d2] }
  | _ => none }
def fnExactIsCompletionRow : OpenClaim := { program := "yteikiifjiapjaaa", sum := "6f4f786cfbbb7510b407dbd52d0e63b8ad305cf952e901f01bfc5da80bc2f34b", func := "loop.example/g02081/laws.FnExactIsCompletion", spec := "fnExactIsCompletion", unfollowed := true, recurses := true, apart := false }
def FnExactIsCompletionSaid : Prop := fnExactIsCompletionRow.holds Try.pinned (OpenSpec.ofChange fnExactIsCompletionSpec)

/-- ITS FALSE NEIGHBOUR: 'it returns false'. Refute it at one input. -/
def fnExactIsCompletionWrong : ChangeSpec := { name := "fnExactIsCompletion", fn := fun _ => fun
  | [d1, d2] => { results := [.lit (.bool false)], args := [d1, d2] }
  | _ => none }
def FnExactIsCompletionWrongFalsely : Prop := fnExactIsCompletionRow.holds Try.pinned (OpenSpec.ofChange fnExactIsCompletionWrong)

/-- 'laws.FnExactTwinOrder': WHATEVER THE INPUT: true; the input reads as it did. -/
def fnExactTwinOrderSpec : ChangeSpec := { name := "fnExactTwinOrder", fn := fun _ => fun
  | [d] => { results := [.lit (.bool true)], args := [d] }
  | _ => none }
def fnExactTwinOrderRow : OpenClaim := { program := "yteikiifjiapjaaa", sum := "6f4f786cfbbb7510b407dbd52d0e63b8ad305cf952e901f01bfc5da80bc2f34b", func := "loop.example/g02081/laws.FnExactTwinOrder", spec := "fnExactTwinOrder", unfollowed := true, recurses := true, apart := false }
def FnExactTwinOrderSaid : Prop := fnExactTwinOrderRow.holds Try.pinned (OpenSpec.ofChange fnExactTwinOrderSpec)

/-- ITS FALSE NEIGHBOUR: 'it returns false'. Refute it at one input. -/
def fnExactTwinOrderWrong : ChangeSpec := { name := "fnExactTwinOrder", fn := fun _ => fun
  | [d] => { results := [.lit (.bool false)], args := [d] }
  | _ => none }
def FnExactTwinOrderWrongFalsely : Prop := fnExactTwinOrderRow.holds Try.pinned (OpenSpec.ofChange fnExactTwinOrderWrong)

/-- 'laws.FnExactThresholdOrder': WHATEVER THE INPUT: true; the input reads as it did. -/
def fnExactThresholdOrderSpec : ChangeSpec := { name := "fnExactThresholdOrder", fn := fun _ => fun
  | [d] => { results := [.lit (.bool true)], args := [d] }
  | _ => none }
def fnExactThresholdOrderRow : OpenClaim := { program := "yteikiifjiapjaaa", sum := "6f4f786cfbbb7510b407dbd52d0e63b8ad305cf952e901f01bfc5da80bc2f34b", func := "loop.example/g02081/laws.FnExactThresholdOrder", spec := "fnExactThresholdOrder", apart := false }
def FnExactThresholdOrderSaid : Prop := fnExactThresholdOrderRow.holds Try.pinned (OpenSpec.ofChange fnExactThresholdOrderSpec)

/-- ITS FALSE NEIGHBOUR: 'it returns false'. Refute it at one input. -/
def fnExactThresholdOrderWrong : ChangeSpec := { name := "fnExactThresholdOrder", fn := fun _ => fun
  | [d] => { results := [.lit (.bool false)], args := [d] }
  | _ => none }
def FnExactThresholdOrderWrongFalsely : Prop := fnExactThresholdOrderRow.holds Try.pinned (OpenSpec.ofChange fnExactThresholdOrderWrong)

/-- 'laws.FnExactIsThreshold': WHATEVER THE INPUT: true; the input reads as it did. -/
def fnExactIsThresholdSpec : ChangeSpec := { name := "fnExactIsThreshold", fn := fun _ => fun
  | [d] => { results := [.lit (.bool true)], args := [d] }
  | _ => none }
def fnExactIsThresholdRow : OpenClaim := { program := "yteikiifjiapjaaa", sum := "6f4f786cfbbb7510b407dbd52d0e63b8ad305cf952e901f01bfc5da80bc2f34b", func := "loop.example/g02081/laws.FnExactIsThreshold", spec := "fnExactIsThreshold", apart := false }
def FnExactIsThresholdSaid : Prop := fnExactIsThresholdRow.holds Try.pinned (OpenSpec.ofChange fnExactIsThresholdSpec)

/-- ITS FALSE NEIGHBOUR: 'it returns false'. Refute it at one input. -/
def fnExactIsThresholdWrong : ChangeSpec := { name := "fnExactIsThreshold", fn := fun _ => fun
  | [d] => { results := [.lit (.bool false)], args := [d] }
  | _ => none }
def FnExactIsThresholdWrongFalsely : Prop := fnExactIsThresholdRow.holds Try.pinned (OpenSpec.ofChange fnExactIsThresholdWrong)

/-- 'laws.FnExactUmbrellaOf': WHATEVER THE INPUT: true; the input reads as it did. -/
def fnExactUmbrellaOfSpec : ChangeSpec := { name := "fnExactUmbrellaOf", fn := fun _ => fun
  | [d] => { results := [.lit (.bool true)], args := [d] }
  | _ => none }
def fnExactUmbrellaOfRow : OpenClaim := { program := "yteikiifjiapjaaa", sum := "6f4f786cfbbb7510b407dbd52d0e63b8ad305cf952e901f01bfc5da80bc2f34b", func := "loop.example/g02081/laws.FnExactUmbrellaOf", spec := "fnExactUmbrellaOf", unfollowed := true, recurses := true, apart := false }
def FnExactUmbrellaOfSaid : Prop := fnExactUmbrellaOfRow.holds Try.pinned (OpenSpec.ofChange fnExactUmbrellaOfSpec)

/-- ITS FALSE NEIGHBOUR: 'it returns false'. Refute it at one input. -/
def fnExactUmbrellaOfWrong : ChangeSpec := { name := "fnExactUmbrellaOf", fn := fun _ => fun
  | [d] => { results := [.lit (.bool false)], args := [d] }
  | _ => none }
def FnExactUmbrellaOfWrongFalsely : Prop := fnExactUmbrellaOfRow.holds Try.pinned (OpenSpec.ofChange fnExactUmbrellaOfWrong)

/-- 'laws.FnExactIsProper': WHATEVER THE INPUT: true; the input reads as it did. -/
def fnExactIsProperSpec : ChangeSpec := { name := "fnExactIsProper", fn := fun _ => fun
  | [d] => { results := [.lit (.bool true)], args := [d] }
  | _ => none }
def fnExactIsProperRow : OpenClaim := { program := "yteikiifjiapjaaa", sum := "6f4f786cfbbb7510b407dbd52d0e63b8ad305cf952e901f01bfc5da80bc2f34b", func := "loop.example/g02081/laws.FnExactIsProper", spec := "fnExactIsProper", unfollowed := true, recurses := true, apart := false }
def FnExactIsProperSaid : Prop := fnExactIsProperRow.holds Try.pinned (OpenSpec.ofChange fnExactIsProperSpec)

/-- ITS FALSE NEIGHBOUR: 'it returns false'. Refute it at one input. -/
def fnExactIsProperWrong : ChangeSpec := { name := "fnExactIsProper", fn := fun _ => fun
  | [d] => { results := [.lit (.bool false)], args := [d] }
  | _ => none }
def FnExactIsProperWrongFalsely : Prop := fnExactIsProperRow.holds Try.pinned (OpenSpec.ofChange fnExactIsProperWrong)

/-- 'laws.FnExactBestBand': WHATEVER THE INPUT: true; the input reads as it did. -/
def fnExactBestBandSpec : ChangeSpec := { name := "fnExactBestBand", fn := fun _ => fun
  | [d] => { results := [.lit (.bool true)], args := [d] }
  | _ => none }
def fnExactBestBandRow : OpenClaim := { program := "yteikiifjiapjaaa", sum := "6f4f786cfbbb7510b407dbd52d0e63b8ad305cf952e901f01bfc5da80bc2f34b", func := "loop.example/g02081/laws.FnExactBestBand", spec := "fnExactBestBand", unfollowed := true, recurses := true, apart := false }
def FnExactBestBandSaid : Prop := fnExactBestBandRow.holds Try.pinned (OpenSpec.ofChange fnExactBestBandSpec)

/-- ITS FALSE NEIGHBOUR: 'it returns false'. Refute it at one input. -/
def fnExactBestBandWrong : ChangeSpec := { name := "fnExactBestBand", fn := fun _ => fun
  | [d] => { results := [.lit (.bool false)], args := [d] }
  | _ => none }
def FnExactBestBandWrongFalsely : Prop := fnExactBestBandRow.holds Try.pinned (OpenSpec.ofChange fnExactBestBandWrong)

/-- 'laws.FnExactBandwidthOf': WHATEVER THE INPUT: true; the input reads as it did. -/
def fnExactBandwidthOfSpec : ChangeSpec := { name := "fnExactBandwidthOf", fn := fun _ => fun
  | [d] => { results := [.lit (.bool true)], args := [d] }
  | _ => none }
def fnExactBandwidthOfRow : OpenClaim := { program := "yteikiifjiapjaaa", sum := "6f4f786cfbbb7510b407dbd52d0e63b8ad305cf952e901f01bfc5da80bc2f34b", func := "loop.example/g02081/laws.FnExactBandwidthOf", spec := "fnExactBandwidthOf", unfollowed := true, recurses := true, apart := false }
def FnExactBandwidthOfSaid : Prop := fnExactBandwidthOfRow.holds Try.pinned (OpenSpec.ofChange fnExactBandwidthOfSpec)

/-- ITS FALSE NEIGHBOUR: 'it returns false'. Refute it at one input. -/
def fnExactBandwidthOfWrong : ChangeSpec := { name := "fnExactBandwidthOf", fn := fun _ => fun
  | [d] => { results := [.lit (.bool false)], args := [d] }
  | _ => none }
def FnExactBandwidthOfWrongFalsely : Prop := fnExactBandwidthOfRow.holds Try.pinned (OpenSpec.ofChange fnExactBandwidthOfWrong)

/-- 'laws.FnExactLexOrder': WHATEVER THE INPUT: true; the input reads as it did. -/
def fnExactLexOrderSpec : ChangeSpec := { name := "fnExactLexOrder", fn := fun _ => fun
  | [d1, d2] => { results := [.lit (.bool true)], args := [d1, d2] }
  | _ => none }
def fnExactLexOrderRow : OpenClaim := { program := "yteikiifjiapjaaa", sum := "6f4f786cfbbb7510b407dbd52d0e63b8ad305cf952e901f01bfc5da80bc2f34b", func := "loop.example/g02081/laws.FnExactLexOrder", spec := "fnExactLexOrder", unfollowed := true, recurses := true, apart := false }
def FnExactLexOrderSaid : Prop := fnExactLexOrderRow.holds Try.pinned (OpenSpec.ofChange fnExactLexOrderSpec)

/-- ITS FALSE NEIGHBOUR: 'it returns false'. Refute it at one input. -/
def fnExactLexOrderWrong : ChangeSpec := { name := "fnExactLexOrder", fn := fun _ => fun
  | [d1, d2] => { results := [.lit (.bool false)], args := [d1, d2] }
  | _ => none }
def FnExactLexOrderWrongFalsely : Prop := fnExactLexOrderRow.holds Try.pinned (OpenSpec.ofChange fnExactLexOrderWrong)

/-- 'laws.FnExactCardinalityOrder': WHATEVER THE INPUT: true; the input reads as it did. -/
def fnExactCardinalityOrderSpec : ChangeSpec := { name := "fnExactCardinalityOrder", fn := fun _ => fun
  | [d1, d2] => { results := [.lit (.bool true)], args := [d1, d2] }
  | _ => none }
def fnExactCardinalityOrderRow : OpenClaim := { program := "yteikiifjiapjaaa", sum := "6f4f786cfbbb7510b407dbd52d0e63b8ad305cf952e901f01bfc5da80bc2f34b", func := "loop.example/g02081/laws.FnExactCardinalityOrder", spec := "fnExactCardinalityOrder", unfollowed := true, recurses := true, apart := false }
def FnExactCardinalityOrderSaid : Prop := fnExactCardinalityOrderRow.holds Try.pinned (OpenSpec.ofChange fnExactCardinalityOrderSpec)

/-- ITS FALSE NEIGHBOUR: 'it returns false'. Refute it at one input. -/
def fnExactCardinalityOrderWrong : ChangeSpec := { name := "fnExactCardinalityOrder", fn := fun _ => fun
  | [d1, d2] => { results := [.lit (.bool false)], args := [d1, d2] }
  | _ => none }
def FnExactCardinalityOrderWrongFalsely : Prop := fnExactCardinalityOrderRow.holds Try.pinned (OpenSpec.ofChange fnExactCardinalityOrderWrong)

/-- 'laws.FnExactIsLexElimination': WHATEVER THE INPUT: true; the input reads as it did. -/
def fnExactIsLexEliminationSpec : ChangeSpec := { name := "fnExactIsLexElimination", fn := fun _ => fun
  | [d1, d2] => { results := [.lit (.bool true)], args := [d1, d2] }
  | _ => none }
def fnExactIsLexEliminationRow : OpenClaim := { program := "yteikiifjiapjaaa", sum := "6f4f786cfbbb7510b407dbd52d0e63b8ad305cf952e901f01bfc5da80bc2f34b", func := "loop.example/g02081/laws.FnExactIsLexElimination", spec := "fnExactIsLexElimination", unfollowed := true, recurses := true, apart := false }
def FnExactIsLexEliminationSaid : Prop := fnExactIsLexEliminationRow.holds Try.pinned (OpenSpec.ofChange fnExactIsLexEliminationSpec)

/-- ITS FALSE NEIGHBOUR: 'it returns false'. Refute it at one input. -/
def fnExactIsLexEliminationWrong : ChangeSpec := { name := "fnExactIsLexElimination", fn := fun _ => fun
  | [d1, d2] => { results := [.lit (.bool false)], args := [d1, d2] }
  | _ => none }
def FnExactIsLexEliminationWrongFalsely : Prop := fnExactIsLexEliminationRow.holds Try.pinned (OpenSpec.ofChange fnExactIsLexEliminationWrong)

/- THE SECOND FORM. 'bulk': how many values and letters a reading holds, each counted each time it is reached (what is shared counts as often as it is met; a slice's spare places count too). A statement '..UptoSaid' is the law's where the arguments, and the package variables that the reading takes, are together of bulk at most 1048576: NARROWER than '..Said'. Prove '..Said' where nothing that the law and all that it calls make is longer than what came in: it says more and counts as full. Else prove '..UptoSaid'. A law counts once. -/
mutual
def uptoBulk {H : Type} : DataW H → Nat
  | .lit (.string bytes) => bytes.length + 1
  | .lit _ => 1
  | .nil => 1
  | .ptr d => uptoBulk d + 1
  | .slice elems spare => uptoBulkAll elems + uptoBulkAll spare + 1
  | .agg parts => uptoBulkAll parts + 1
  | .iface _ d => uptoBulk d + 1
  | .map entries => uptoBulkEntries entries + 1
  | .held _ => 1
def uptoBulkAll {H : Type} : List (DataW H) → Nat
  | [] => 0
  | d :: r => uptoBulk d + uptoBulkAll r
def uptoBulkEntries {H : Type} : List (Lit × DataW H) → Nat
  | [] => 0
  | x :: r => uptoBulkEntry x + uptoBulkEntries r
def uptoBulkEntry {H : Type} : Lit × DataW H → Nat
  | (.string bytes, d) => bytes.length + uptoBulk d + 1
  | (_, d) => uptoBulk d + 1
 end
def uptoSmall : (H : Type) → List (DataW H) → Bool := fun _ ds => decide (uptoBulkAll ds ≤ 1048576)
def OpenSpec.upto (s : _root_.Go.ChangeSpec) : _root_.Go.OpenSpec := { _root_.Go.OpenSpec.ofChange s with cond := some uptoSmall }

/-- 'laws.FnExactEliminationOf', WHERE WHAT IT READS IS OF BULK AT MOST 1048576: true; the input reads as it did. -/
def fnExactEliminationOfUptoRow : OpenClaim := { program := "yteikiifjiapjaaa", sum := "6f4f786cfbbb7510b407dbd52d0e63b8ad305cf952e901f01bfc5da80bc2f34b", func := "loop.example/g02081/laws.FnExactEliminationOf", spec := "fnExactEliminationOf", unfollowed := true, recurses := true, apart := false, narrowed := true }
def FnExactEliminationOfUptoSaid : Prop := fnExactEliminationOfUptoRow.holds Try.pinned (OpenSpec.upto fnExactEliminationOfSpec)

/-- 'laws.FnExactIsChordal', WHERE WHAT IT READS IS OF BULK AT MOST 1048576: true; the input reads as it did. -/
def fnExactIsChordalUptoRow : OpenClaim := { program := "yteikiifjiapjaaa", sum := "6f4f786cfbbb7510b407dbd52d0e63b8ad305cf952e901f01bfc5da80bc2f34b", func := "loop.example/g02081/laws.FnExactIsChordal", spec := "fnExactIsChordal", unfollowed := true, recurses := true, apart := false, narrowed := true }
def FnExactIsChordalUptoSaid : Prop := fnExactIsChordalUptoRow.holds Try.pinned (OpenSpec.upto fnExactIsChordalSpec)

/-- 'laws.FnExactIsCompletion', WHERE WHAT IT READS IS OF BULK AT MOST 1048576: true; the input reads as it did. -/
def fnExactIsCompletionUptoRow : OpenClaim := { program := "yteikiifjiapjaaa", sum := "6f4f786cfbbb7510b407dbd52d0e63b8ad305cf952e901f01bfc5da80bc2f34b", func := "loop.example/g02081/laws.FnExactIsCompletion", spec := "fnExactIsCompletion", unfollowed := true, recurses := true, apart := false, narrowed := true }
def FnExactIsCompletionUptoSaid : Prop := fnExactIsCompletionUptoRow.holds Try.pinned (OpenSpec.upto fnExactIsCompletionSpec)

/-- 'laws.FnExactTwinOrder', WHERE WHAT IT READS IS OF BULK AT MOST 1048576: true; the input reads as it did. -/
def fnExactTwinOrderUptoRow : OpenClaim := { program := "yteikiifjiapjaaa", sum := "6f4f786cfbbb7510b407dbd52d0e63b8ad305cf952e901f01bfc5da80bc2f34b", func := "loop.example/g02081/laws.FnExactTwinOrder", spec := "fnExactTwinOrder", unfollowed := true, recurses := true, apart := false, narrowed := true }
def FnExactTwinOrderUptoSaid : Prop := fnExactTwinOrderUptoRow.holds Try.pinned (OpenSpec.upto fnExactTwinOrderSpec)

/-- 'laws.FnExactThresholdOrder', WHERE WHAT IT READS IS OF BULK AT MOST 1048576: true; the input reads as it did. -/
def fnExactThresholdOrderUptoRow : OpenClaim := { program := "yteikiifjiapjaaa", sum := "6f4f786cfbbb7510b407dbd52d0e63b8ad305cf952e901f01bfc5da80bc2f34b", func := "loop.example/g02081/laws.FnExactThresholdOrder", spec := "fnExactThresholdOrder", apart := false, narrowed := true }
def FnExactThresholdOrderUptoSaid : Prop := fnExactThresholdOrderUptoRow.holds Try.pinned (OpenSpec.upto fnExactThresholdOrderSpec)

/-- 'laws.FnExactIsThreshold', WHERE WHAT IT READS IS OF BULK AT MOST 1048576: true; the input reads as it did. -/
def fnExactIsThresholdUptoRow : OpenClaim := { program := "yteikiifjiapjaaa", sum := "6f4f786cfbbb7510b407dbd52d0e63b8ad305cf952e901f01bfc5da80bc2f34b", func := "loop.example/g02081/laws.FnExactIsThreshold", spec := "fnExactIsThreshold", apart := false, narrowed := true }
def FnExactIsThresholdUptoSaid : Prop := fnExactIsThresholdUptoRow.holds Try.pinned (OpenSpec.upto fnExactIsThresholdSpec)

/-- 'laws.FnExactUmbrellaOf', WHERE WHAT IT READS IS OF BULK AT MOST 1048576: true; the input reads as it did. -/
def fnExactUmbrellaOfUptoRow : OpenClaim := { program := "yteikiifjiapjaaa", sum := "6f4f786cfbbb7510b407dbd52d0e63b8ad305cf952e901f01bfc5da80bc2f34b", func := "loop.example/g02081/laws.FnExactUmbrellaOf", spec := "fnExactUmbrellaOf", unfollowed := true, recurses := true, apart := false, narrowed := true }
def FnExactUmbrellaOfUptoSaid : Prop := fnExactUmbrellaOfUptoRow.holds Try.pinned (OpenSpec.upto fnExactUmbrellaOfSpec)

/-- 'laws.FnExactIsProper', WHERE WHAT IT READS IS OF BULK AT MOST 1048576: true; the input reads as it did. -/
def fnExactIsProperUptoRow : OpenClaim := { program := "yteikiifjiapjaaa", sum := "6f4f786cfbbb7510b407dbd52d0e63b8ad305cf952e901f01bfc5da80bc2f34b", func := "loop.example/g02081/laws.FnExactIsProper", spec := "fnExactIsProper", unfollowed := true, recurses := true, apart := false, narrowed := true }
def FnExactIsProperUptoSaid : Prop := fnExactIsProperUptoRow.holds Try.pinned (OpenSpec.upto fnExactIsProperSpec)

/-- 'laws.FnExactBestBand', WHERE WHAT IT READS IS OF BULK AT MOST 1048576: true; the input reads as it did. -/
def fnExactBestBandUptoRow : OpenClaim := { program := "yteikiifjiapjaaa", sum := "6f4f786cfbbb7510b407dbd52d0e63b8ad305cf952e901f01bfc5da80bc2f34b", func := "loop.example/g02081/laws.FnExactBestBand", spec := "fnExactBestBand", unfollowed := true, recurses := true, apart := false, narrowed := true }
def FnExactBestBandUptoSaid : Prop := fnExactBestBandUptoRow.holds Try.pinned (OpenSpec.upto fnExactBestBandSpec)

/-- 'laws.FnExactBandwidthOf', WHERE WHAT IT READS IS OF BULK AT MOST 1048576: true; the input reads as it did. -/
def fnExactBandwidthOfUptoRow : OpenClaim := { program := "yteikiifjiapjaaa", sum := "6f4f786cfbbb7510b407dbd52d0e63b8ad305cf952e901f01bfc5da80bc2f34b", func := "loop.example/g02081/laws.FnExactBandwidthOf", spec := "fnExactBandwidthOf", unfollowed := true, recurses := true, apart := false, narrowed := true }
def FnExactBandwidthOfUptoSaid : Prop := fnExactBandwidthOfUptoRow.holds Try.pinned (OpenSpec.upto fnExactBandwidthOfSpec)

/-- 'laws.FnExactLexOrder', WHERE WHAT IT READS IS OF BULK AT MOST 1048576: true; the input reads as it did. -/
def fnExactLexOrderUptoRow : OpenClaim := { program := "yteikiifjiapjaaa", sum := "6f4f786cfbbb7510b407dbd52d0e63b8ad305cf952e901f01bfc5da80bc2f34b", func := "loop.example/g02081/laws.FnExactLexOrder", spec := "fnExactLexOrder", unfollowed := true, recurses := true, apart := false, narrowed := true }
def FnExactLexOrderUptoSaid : Prop := fnExactLexOrderUptoRow.holds Try.pinned (OpenSpec.upto fnExactLexOrderSpec)

/-- 'laws.FnExactCardinalityOrder', WHERE WHAT IT READS IS OF BULK AT MOST 1048576: true; the input reads as it did. -/
def fnExactCardinalityOrderUptoRow : OpenClaim := { program := "yteikiifjiapjaaa", sum := "6f4f786cfbbb7510b407dbd52d0e63b8ad305cf952e901f01bfc5da80bc2f34b", func := "loop.example/g02081/laws.FnExactCardinalityOrder", spec := "fnExactCardinalityOrder", unfollowed := true, recurses := true, apart := false, narrowed := true }
def FnExactCardinalityOrderUptoSaid : Prop := fnExactCardinalityOrderUptoRow.holds Try.pinned (OpenSpec.upto fnExactCardinalityOrderSpec)

/-- 'laws.FnExactIsLexElimination', WHERE WHAT IT READS IS OF BULK AT MOST 1048576: true; the input reads as it did. -/
def fnExactIsLexEliminationUptoRow : OpenClaim := { program := "yteikiifjiapjaaa", sum := "6f4f786cfbbb7510b407dbd52d0e63b8ad305cf952e901f01bfc5da80bc2f34b", func := "loop.example/g02081/laws.FnExactIsLexElimination", spec := "fnExactIsLexElimination", unfollowed := true, recurses := true, apart := false, narrowed := true }
def FnExactIsLexEliminationUptoSaid : Prop := fnExactIsLexEliminationUptoRow.holds Try.pinned (OpenSpec.upto fnExactIsLexEliminationSpec)

end Rows
end Go.Proofs.Yteikiifjiapjaaa
