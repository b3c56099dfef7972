/-
  No cell of these rows narrows 'for every input' (looked for: loops, veiled, ifaces, maps, wideKeys, modest, calm, conditions, laid).
  DERIVED. THE GIVEN ROWS OF THIS SEAT. 6 by the template 'for every input the law returns true; each argument reads behind the call as it read before'; 0 by the template 'total and deterministic' (their statements: YtpifgmmmmhenmacTotals.lean).
  GIVEN WITH THE SEED: the statements are not yours to turn. If you find one false, say at which input.
  Laid BY PROGRAM, IN A SANDBOX (cutbox-rows.mjs): the forced cells as the released guide's own fill.sh prints them over the translation 4b00b52c7ddf2201… (all of the seat's roots in one cut). By AI agents, Wed Nov 11 2026. No macro, syntax, notation, axiom, sorry.
-/
import Derived.Test.YtpifgmmmmhenmacChecked
import GoSem.Claim
import GoSem.ClaimJoined
import GoSem.ClaimMapViews
import Derived.JoinedTies
import Derived.KernelRfl
namespace Go.Proofs.Ytpifgmmmmhenmac
/- THE CELL 'sum', in the pinned program and in every row, IS THE sha256 OF THE DUMP (.gsa) THAT YtpifgmmmmhenmacProg.lean LOADS. Nothing in Lean hashes anything: it is a label: what it is worth is what the hold of that sum in a sandbox is worth. -/
noncomputable def Try.pinned : Pinned := { name := "ytpifgmmmmhenmac", sum := "4b00b52c7ddf22010f3285284158b0dd87714df3390470b5f63d7d736d83a037", checked := Try.checked }
namespace Rows
def none {H : Type} : Left H := { results := [], args := [] }

/-- 'laws.FnExactModelOfOrder': WHATEVER THE INPUT: true; the input reads as it did. -/
def fnExactModelOfOrderSpec : ChangeSpec := { name := "fnExactModelOfOrder", fn := fun _ => fun
  | [d1, d2] => { results := [.lit (.bool true)], args := [d1, d2] }
  | _ => none }
def fnExactModelOfOrderRow : OpenClaim := { program := "ytpifgmmmmhenmac", sum := "4b00b52c7ddf22010f3285284158b0dd87714df3390470b5f63d7d736d83a037", func := "loop.example/g02081/laws.FnExactModelOfOrder", spec := "fnExactModelOfOrder", unfollowed := true, recurses := true, apart := false }
def FnExactModelOfOrderSaid : Prop := fnExactModelOfOrderRow.holds Try.pinned (OpenSpec.ofChange fnExactModelOfOrderSpec)

/-- ITS FALSE NEIGHBOUR: 'it returns false'. Refute it at one input. -/
def fnExactModelOfOrderWrong : ChangeSpec := { name := "fnExactModelOfOrder", fn := fun _ => fun
  | [d1, d2] => { results := [.lit (.bool false)], args := [d1, d2] }
  | _ => none }
def FnExactModelOfOrderWrongFalsely : Prop := fnExactModelOfOrderRow.holds Try.pinned (OpenSpec.ofChange fnExactModelOfOrderWrong)

/-- 'laws.FnExactPathwidthOf': WHATEVER THE INPUT: true; the input reads as it did. -/
def fnExactPathwidthOfSpec : ChangeSpec := { name := "fnExactPathwidthOf", fn := fun _ => fun
  | [d] => { results := [.lit (.bool true)], args := [d] }
  | _ => none }
def fnExactPathwidthOfRow : OpenClaim := { program := "ytpifgmmmmhenmac", sum := "4b00b52c7ddf22010f3285284158b0dd87714df3390470b5f63d7d736d83a037", func := "loop.example/g02081/laws.FnExactPathwidthOf", spec := "fnExactPathwidthOf", unfollowed := true, recurses := true, apart := false }
def FnExactPathwidthOfSaid : Prop := fnExactPathwidthOfRow.holds Try.pinned (OpenSpec.ofChange fnExactPathwidthOfSpec)

/-- ITS FALSE NEIGHBOUR: 'it returns false'. Refute it at one input. -/
def fnExactPathwidthOfWrong : ChangeSpec := { name := "fnExactPathwidthOf", fn := fun _ => fun
  | [d] => { results := [.lit (.bool false)], args := [d] }
  | _ => none }
def FnExactPathwidthOfWrongFalsely : Prop := fnExactPathwidthOfRow.holds Try.pinned (OpenSpec.ofChange fnExactPathwidthOfWrong)

/-- 'laws.FnExactTreewidthOf': WHATEVER THE INPUT: true; the input reads as it did. -/
def fnExactTreewidthOfSpec : ChangeSpec := { name := "fnExactTreewidthOf", fn := fun _ => fun
  | [d] => { results := [.lit (.bool true)], args := [d] }
  | _ => none }
def fnExactTreewidthOfRow : OpenClaim := { program := "ytpifgmmmmhenmac", sum := "4b00b52c7ddf22010f3285284158b0dd87714df3390470b5f63d7d736d83a037", func := "loop.example/g02081/laws.FnExactTreewidthOf", spec := "fnExactTreewidthOf", unfollowed := true, recurses := true, apart := false }
def FnExactTreewidthOfSaid : Prop := fnExactTreewidthOfRow.holds Try.pinned (OpenSpec.ofChange fnExactTreewidthOfSpec)

/-- ITS FALSE NEIGHBOUR: 'it returns false'. Refute it at one input. -/
def fnExactTreewidthOfWrong : ChangeSpec := { name := "fnExactTreewidthOf", fn := fun _ => fun
  | [d] => { results := [.lit (.bool false)], args := [d] }
  | _ => none }
def FnExactTreewidthOfWrongFalsely : Prop := fnExactTreewidthOfRow.holds Try.pinned (OpenSpec.ofChange fnExactTreewidthOfWrong)

/-- 'laws.FnExactPruneOrder': WHATEVER THE INPUT: true; the input reads as it did. -/
def fnExactPruneOrderSpec : ChangeSpec := { name := "fnExactPruneOrder", fn := fun _ => fun
  | [d] => { results := [.lit (.bool true)], args := [d] }
  | _ => none }
def fnExactPruneOrderRow : OpenClaim := { program := "ytpifgmmmmhenmac", sum := "4b00b52c7ddf22010f3285284158b0dd87714df3390470b5f63d7d736d83a037", func := "loop.example/g02081/laws.FnExactPruneOrder", spec := "fnExactPruneOrder", unfollowed := true, recurses := true, apart := false }
def FnExactPruneOrderSaid : Prop := fnExactPruneOrderRow.holds Try.pinned (OpenSpec.ofChange fnExactPruneOrderSpec)

/-- ITS FALSE NEIGHBOUR: 'it returns false'. Refute it at one input. -/
def fnExactPruneOrderWrong : ChangeSpec := { name := "fnExactPruneOrder", fn := fun _ => fun
  | [d] => { results := [.lit (.bool false)], args := [d] }
  | _ => none }
def FnExactPruneOrderWrongFalsely : Prop := fnExactPruneOrderRow.holds Try.pinned (OpenSpec.ofChange fnExactPruneOrderWrong)

/-- 'laws.FnExactIsHereditary': WHATEVER THE INPUT: true; the input reads as it did. -/
def fnExactIsHereditarySpec : ChangeSpec := { name := "fnExactIsHereditary", fn := fun _ => fun
  | [d] => { results := [.lit (.bool true)], args := [d] }
  | _ => none }
def fnExactIsHereditaryRow : OpenClaim := { program := "ytpifgmmmmhenmac", sum := "4b00b52c7ddf22010f3285284158b0dd87714df3390470b5f63d7d736d83a037", func := "loop.example/g02081/laws.FnExactIsHereditary", spec := "fnExactIsHereditary", unfollowed := true, recurses := true, apart := false }
def FnExactIsHereditarySaid : Prop := fnExactIsHereditaryRow.holds Try.pinned (OpenSpec.ofChange fnExactIsHereditarySpec)

/-- ITS FALSE NEIGHBOUR: 'it returns false'. Refute it at one input. -/
def fnExactIsHereditaryWrong : ChangeSpec := { name := "fnExactIsHereditary", fn := fun _ => fun
  | [d] => { results := [.lit (.bool false)], args := [d] }
  | _ => none }
def FnExactIsHereditaryWrongFalsely : Prop := fnExactIsHereditaryRow.holds Try.pinned (OpenSpec.ofChange fnExactIsHereditaryWrong)

/-- 'laws.FnExactUnitModelOf': WHATEVER THE INPUT: true; the input reads as it did. -/
def fnExactUnitModelOfSpec : ChangeSpec := { name := "fnExactUnitModelOf", fn := fun _ => fun
  | [d] => { results := [.lit (.bool true)], args := [d] }
  | _ => none }
def fnExactUnitModelOfRow : OpenClaim := { program := "ytpifgmmmmhenmac", sum := "4b00b52c7ddf22010f3285284158b0dd87714df3390470b5f63d7d736d83a037", func := "loop.example/g02081/laws.FnExactUnitModelOf", spec := "fnExactUnitModelOf", unfollowed := true, recurses := true, apart := false }
def FnExactUnitModelOfSaid : Prop := fnExactUnitModelOfRow.holds Try.pinned (OpenSpec.ofChange fnExactUnitModelOfSpec)

/-- ITS FALSE NEIGHBOUR: 'it returns false'. Refute it at one input. -/
def fnExactUnitModelOfWrong : ChangeSpec := { name := "fnExactUnitModelOf", fn := fun _ => fun
  | [d] => { results := [.lit (.bool false)], args := [d] }
  | _ => none }
def FnExactUnitModelOfWrongFalsely : Prop := fnExactUnitModelOfRow.holds Try.pinned (OpenSpec.ofChange fnExactUnitModelOfWrong)

/- THE SECOND FORM. 'bulk': how many values and letters a reading holds, each counted each time it is reached (what is shared counts as often as it is met; a slice's spare places count too). A statement '..UptoSaid' is the law's where the arguments, and the package variables that the reading takes, are together of bulk at most 1048576: NARROWER than '..Said'. Prove '..Said' where nothing that the law and all that it calls make is longer than what came in: it says more and counts as full. Else prove '..UptoSaid'. A law counts once. -/
mutual
def uptoBulk {H : Type} : DataW H → Nat
  | .lit (.string bytes) => bytes.length + 1
  | .lit _ => 1
  | .nil => 1
  | .ptr d => uptoBulk d + 1
  | .slice elems spare => uptoBulkAll elems + uptoBulkAll spare + 1
  | .agg parts => uptoBulkAll parts + 1
  | .iface _ d => uptoBulk d + 1
  | .map entries => uptoBulkEntries entries + 1
  | .held _ => 1
def uptoBulkAll {H : Type} : List (DataW H) → Nat
  | [] => 0
  | d :: r => uptoBulk d + uptoBulkAll r
def uptoBulkEntries {H : Type} : List (Lit × DataW H) → Nat
  | [] => 0
  | x :: r => uptoBulkEntry x + uptoBulkEntries r
def uptoBulkEntry {H : Type} : Lit × DataW H → Nat
  | (.string bytes, d) => bytes.length + uptoBulk d + 1
  | (_, d) => uptoBulk d + 1
 end
def uptoSmall : (H : Type) → List (DataW H) → Bool := fun _ ds => decide (uptoBulkAll ds ≤ 1048576)
def OpenSpec.upto (s : _root_.Go.ChangeSpec) : _root_.Go.OpenSpec := { _root_.Go.OpenSpec.ofChange s with cond := some uptoSmall }

/-- 'laws.FnExactModelOfOrder', WHERE WHAT IT READS IS OF BULK AT MOST 1048576: true; the input reads as it did. -/
def fnExactModelOfOrderUptoRow : OpenClaim := { program := "ytpifgmmmmhenmac", sum := "4b00b52c7ddf22010f3285284158b0dd87714df3390470b5f63d7d736d83a037", func := "loop.example/g02081/laws.FnExactModelOfOrder", spec := "fnExactModelOfOrder", unfollowed := true, recurses := true, apart := false, narrowed := true }
def FnExactModelOfOrderUptoSaid : Prop := fnExactModelOfOrderUptoRow.holds Try.pinned (OpenSpec.upto fnExactModelOfOrderSpec)

/-- 'laws.FnExactPathwidthOf', WHERE WHAT IT READS IS OF BULK AT MOST 1048576: true; the input reads as it did. -/
def fnExactPathwidthOfUptoRow : OpenClaim := { program := "ytpifgmmmmhenmac", sum := "4b00b52c7ddf22010f3285284158b0dd87714df3390470b5f63d7d736d83a037", func := "loop.example/g02081/laws.FnExactPathwidthOf", spec := "fnExactPathwidthOf", unfollowed := true, recurses := true, apart := false, narrowed := true }
def FnExactPathwidthOfUptoSaid : Prop := fnExactPathwidthOfUptoRow.holds Try.pinned (OpenSpec.upto fnExactPathwidthOfSpec)

/-- 'laws.FnExactTreewidthOf', WHERE WHAT IT READS IS OF BULK AT MOST 1048576: true; the input reads as it did. -/
def fnExactTreewidthOfUptoRow : OpenClaim := { program := "ytpifgmmmmhenmac", sum := "4b00b52c7ddf22010f3285284158b0dd87714df3390470b5f63d7d736d83a037", func := "loop.example/g02081/laws.FnExactTreewidthOf", spec := "fnExactTreewidthOf", unfollowed := true, recurses := true, apart := false, narrowed := true }
def FnExactTreewidthOfUptoSaid : Prop := fnExactTreewidthOfUptoRow.holds Try.pinned (OpenSpec.upto fnExactTreewidthOfSpec)

/-- 'laws.FnExactPruneOrder', WHERE WHAT IT READS IS OF BULK AT MOST 1048576: true; the input reads as it did. -/
def fnExactPruneOrderUptoRow : OpenClaim := { program := "ytpifgmmmmhenmac", sum := "4b00b52c7ddf22010f3285284158b0dd87714df3390470b5f63d7d736d83a037", func := "loop.example/g02081/laws.FnExactPruneOrder", spec := "fnExactPruneOrder", unfollowed := true, recurses := true, apart := false, narrowed := true }
def FnExactPruneOrderUptoSaid : Prop := fnExactPruneOrderUptoRow.holds Try.pinned (OpenSpec.upto fnExactPruneOrderSpec)

/-- 'laws.FnExactIsHereditary', WHERE WHAT IT READS IS OF BULK AT MOST 1048576: true; the input reads as it did. -/
def fnExactIsHereditaryUptoRow : OpenClaim := { program := "ytpifgmmmmhenmac", sum := "4b00b52c7ddf22010f3285284158b0dd87714df3390470b5f63d7d736d83a037", func := "loop.example/g02081/laws.FnExactIsHereditary", spec := "fnExactIsHereditary", unfollowed := true, recurses := true, apart := false, narrowed := true }
def FnExactIsHereditaryUptoSaid : Prop := fnExactIsHereditaryUptoRow.holds Try.pinned (OpenSpec.upto fnExactIsHereditarySpec)

/-- 'laws.FnExactUnitModelOf', WHERE WHAT IT READS IS OF BULK AT MOST 1048576: true; the input reads as it did. -/
def fnExactUnitModelOfUptoRow : OpenClaim := { program := "ytpifgmmmmhenmac", sum := "4b00b52c7ddf22010f3285284158b0dd87714df3390470b5f63d7d736d83a037", func := "loop.example/g02081/laws.FnExactUnitModelOf", spec := "fnExactUnitModelOf", unfollowed := true, recurses := true, apart := false, narrowed := true }
def FnExactUnitModelOfUptoSaid : Prop := fnExactUnitModelOfUptoRow.holds Try.pinned (OpenSpec.upto fnExactUnitModelOfSpec)

end Rows
end Go.Proofs.Ytpifgmmmmhenmac
