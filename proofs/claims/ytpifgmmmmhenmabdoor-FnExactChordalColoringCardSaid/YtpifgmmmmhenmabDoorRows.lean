/-
  NARROWER THAN 'FOR EVERY INPUT', by the rows' own cells (each row's printed sentence says how): FnExactFindTriple: laid · FnExactAddAll: ifaces, laid · FnExactColorByOrder: laid · FnExactChordalColoring: laid · FnExactQuotientOf: laid · FnExactMatchingOf: laid.
  DERIVED. THE GIVEN ROWS OF THIS SEAT. 6 by the template 'for every input the law returns true; each argument reads behind the call as it read before'; 0 by the template 'total and deterministic' (their statements: YtpifgmmmmhenmabDoorTotals.lean).
  GIVEN WITH THE SEED: the statements are not yours to turn. If you find one false, say at which input.
  Laid BY PROGRAM, IN A SANDBOX (cutbox-rows.mjs): the forced cells as the released guide's own fill.sh prints them over the translation 6d8aaa109f375936… (all of the seat's roots in one cut). By AI agents, Wed Nov 11 2026. No macro, syntax, notation, axiom, sorry.
-/
import Derived.Test.YtpifgmmmmhenmabDoorChecked
import GoSem.Claim
import GoSem.ClaimJoined
import GoSem.ClaimMapViews
import Derived.JoinedTies
import Derived.KernelRfl
namespace Go.Proofs.YtpifgmmmmhenmabDoor
/- THE CELL 'sum', in the pinned program and in every row, IS THE sha256 OF THE DUMP (.gsa) THAT YtpifgmmmmhenmabDoorProg.lean LOADS. Nothing in Lean hashes anything: it is a label: what it is worth is what the hold of that sum in a sandbox is worth. -/
noncomputable def Tryd.pinned : Pinned := { name := "ytpifgmmmmhenmabdoor", sum := "6d8aaa109f375936396d87f697aa40dd654b9353fd08605a407b50e8320aad77", checked := Tryd.checked }
namespace Rows
def none {H : Type} : Left H := { results := [], args := [] }

/- WHAT THE LISTED PACKAGE-LEVEL VARIABLES READ AS WHEN THE CALL BEGINS. Each datum BY PROGRAM (the guide's laid-datum.mjs) off the statement by which the dump's own 'gosem.cut.vars' lays the variable. In a bare row this is a premise. The card (YtpifgmmmmhenmabDoorCards.lean) ties it to the program's text. -/
def laid_math_bits_deBruijn32tab {H : Type} : DataW H := .agg [.lit (.int .u8 0), .lit (.int .u8 1), .lit (.int .u8 28), .lit (.int .u8 2), .lit (.int .u8 29), .lit (.int .u8 14), .lit (.int .u8 24), .lit (.int .u8 3), .lit (.int .u8 30), .lit (.int .u8 22), .lit (.int .u8 20), .lit (.int .u8 15), .lit (.int .u8 25), .lit (.int .u8 17), .lit (.int .u8 4), .lit (.int .u8 8), .lit (.int .u8 31), .lit (.int .u8 27), .lit (.int .u8 13), .lit (.int .u8 23), .lit (.int .u8 21), .lit (.int .u8 19), .lit (.int .u8 16), .lit (.int .u8 7), .lit (.int .u8 26), .lit (.int .u8 12), .lit (.int .u8 18), .lit (.int .u8 6), .lit (.int .u8 11), .lit (.int .u8 5), .lit (.int .u8 10), .lit (.int .u8 9)]
def laid_math_bits_deBruijn64tab {H : Type} : DataW H := .agg [.lit (.int .u8 0), .lit (.int .u8 1), .lit (.int .u8 56), .lit (.int .u8 2), .lit (.int .u8 57), .lit (.int .u8 49), .lit (.int .u8 28), .lit (.int .u8 3), .lit (.int .u8 61), .lit (.int .u8 58), .lit (.int .u8 42), .lit (.int .u8 50), .lit (.int .u8 38), .lit (.int .u8 29), .lit (.int .u8 17), .lit (.int .u8 4), .lit (.int .u8 62), .lit (.int .u8 47), .lit (.int .u8 59), .lit (.int .u8 36), .lit (.int .u8 45), .lit (.int .u8 43), .lit (.int .u8 51), .lit (.int .u8 22), .lit (.int .u8 53), .lit (.int .u8 39), .lit (.int .u8 33), .lit (.int .u8 30), .lit (.int .u8 24), .lit (.int .u8 18), .lit (.int .u8 12), .lit (.int .u8 5), .lit (.int .u8 63), .lit (.int .u8 55), .lit (.int .u8 48), .lit (.int .u8 27), .lit (.int .u8 60), .lit (.int .u8 41), .lit (.int .u8 37), .lit (.int .u8 16), .lit (.int .u8 46), .lit (.int .u8 35), .lit (.int .u8 44), .lit (.int .u8 21), .lit (.int .u8 52), .lit (.int .u8 32), .lit (.int .u8 23), .lit (.int .u8 11), .lit (.int .u8 54), .lit (.int .u8 26), .lit (.int .u8 40), .lit (.int .u8 15), .lit (.int .u8 34), .lit (.int .u8 20), .lit (.int .u8 31), .lit (.int .u8 10), .lit (.int .u8 25), .lit (.int .u8 14), .lit (.int .u8 19), .lit (.int .u8 9), .lit (.int .u8 13), .lit (.int .u8 8), .lit (.int .u8 7), .lit (.int .u8 6)]
def laid_errors_errorType {H : Type} : DataW H := .iface "internal/reflectlite.rtype" (.agg [.ptr (.lit (.string [101, 114, 114, 111, 114]))])
def laid_loop_example_g02081_impl_errNoGraph {H : Type} : DataW H := .iface "*errors.errorString" (.ptr (.agg [.lit (.string [116, 104, 101, 32, 103, 114, 97, 112, 104, 32, 105, 115, 32, 110, 111, 116, 32, 118, 97, 108, 105, 100])]))
def laid_loop_example_g02081_impl_errNoEdge {H : Type} : DataW H := .iface "*errors.errorString" (.ptr (.agg [.lit (.string [97, 110, 32, 101, 100, 103, 101, 32, 99, 97, 110, 110, 111, 116, 32, 98, 101, 32, 97, 100, 100, 101, 100])]))

/-- 'laws.FnExactFindTriple': WHATEVER THE INPUT: true; the input reads as it did. -/
def fnExactFindTripleSpec : ChangeSpec := { name := "fnExactFindTriple", fn := fun _ => fun
  | [d] => { results := [.lit (.bool true)], args := [d] }
  | _ => none }
def fnExactFindTripleRow : OpenClaim := { program := "ytpifgmmmmhenmabdoor", sum := "6d8aaa109f375936396d87f697aa40dd654b9353fd08605a407b50e8320aad77", func := "loop.example/g02081/laws.FnExactFindTriple", spec := "fnExactFindTriple", inPlace := ["internal/reflectlite.ValueOf", "(internal/reflectlite.Value).Type", "(internal/reflectlite.Value).IsNil", "internal/reflectlite.TypeOf", "(internal/reflectlite.Value).Elem", "(internal/reflectlite.Value).Set"], unfollowed := true, recurses := true, named := ["math/bits.deBruijn32tab", "math/bits.deBruijn64tab", "errors.errorType"], apart := false, laid := [("math/bits.deBruijn32tab", laid_math_bits_deBruijn32tab), ("math/bits.deBruijn64tab", laid_math_bits_deBruijn64tab), ("errors.errorType", laid_errors_errorType)] }
def FnExactFindTripleSaid : Prop := fnExactFindTripleRow.holds Tryd.pinned (OpenSpec.ofChange fnExactFindTripleSpec)

/-- ITS FALSE NEIGHBOUR: 'it returns false'. Refute it at one input. -/
def fnExactFindTripleWrong : ChangeSpec := { name := "fnExactFindTriple", fn := fun _ => fun
  | [d] => { results := [.lit (.bool false)], args := [d] }
  | _ => none }
def FnExactFindTripleWrongFalsely : Prop := fnExactFindTripleRow.holds Tryd.pinned (OpenSpec.ofChange fnExactFindTripleWrong)

/-- 'laws.FnExactAddAll': WHATEVER THE INPUT: true; the input reads as it did. -/
def fnExactAddAllSpec : ChangeSpec := { name := "fnExactAddAll", vars := ["loop.example/g02081/impl.errNoGraph", "loop.example/g02081/impl.errNoEdge"], fn := fun _ => fun
  | [d1, d2, g1, g2] => { results := [.lit (.bool true)], args := [d1, d2], vars := [g1, g2] }
  | _ => none }
def fnExactAddAllRow : OpenClaim := { program := "ytpifgmmmmhenmabdoor", sum := "6d8aaa109f375936396d87f697aa40dd654b9353fd08605a407b50e8320aad77", func := "loop.example/g02081/laws.FnExactAddAll", spec := "fnExactAddAll", named := ["loop.example/g02081/impl.errNoGraph", "loop.example/g02081/impl.errNoEdge"], ifaces := true, apart := false, laid := [("loop.example/g02081/impl.errNoGraph", laid_loop_example_g02081_impl_errNoGraph), ("loop.example/g02081/impl.errNoEdge", laid_loop_example_g02081_impl_errNoEdge)] }
def FnExactAddAllSaid : Prop := fnExactAddAllRow.holds Tryd.pinned (OpenSpec.ofChange fnExactAddAllSpec)

/-- ITS FALSE NEIGHBOUR: 'it returns false'. Refute it at one input. -/
def fnExactAddAllWrong : ChangeSpec := { name := "fnExactAddAll", vars := ["loop.example/g02081/impl.errNoGraph", "loop.example/g02081/impl.errNoEdge"], fn := fun _ => fun
  | [d1, d2, g1, g2] => { results := [.lit (.bool false)], args := [d1, d2], vars := [g1, g2] }
  | _ => none }
def FnExactAddAllWrongFalsely : Prop := fnExactAddAllRow.holds Tryd.pinned (OpenSpec.ofChange fnExactAddAllWrong)

/-- 'laws.FnExactColorByOrder': WHATEVER THE INPUT: true; the input reads as it did. -/
def fnExactColorByOrderSpec : ChangeSpec := { name := "fnExactColorByOrder", fn := fun _ => fun
  | [d1, d2] => { results := [.lit (.bool true)], args := [d1, d2] }
  | _ => none }
def fnExactColorByOrderRow : OpenClaim := { program := "ytpifgmmmmhenmabdoor", sum := "6d8aaa109f375936396d87f697aa40dd654b9353fd08605a407b50e8320aad77", func := "loop.example/g02081/laws.FnExactColorByOrder", spec := "fnExactColorByOrder", unfollowed := true, recurses := true, named := ["math/bits.deBruijn32tab", "math/bits.deBruijn64tab"], apart := false, laid := [("math/bits.deBruijn32tab", laid_math_bits_deBruijn32tab), ("math/bits.deBruijn64tab", laid_math_bits_deBruijn64tab)] }
def FnExactColorByOrderSaid : Prop := fnExactColorByOrderRow.holds Tryd.pinned (OpenSpec.ofChange fnExactColorByOrderSpec)

/-- ITS FALSE NEIGHBOUR: 'it returns false'. Refute it at one input. -/
def fnExactColorByOrderWrong : ChangeSpec := { name := "fnExactColorByOrder", fn := fun _ => fun
  | [d1, d2] => { results := [.lit (.bool false)], args := [d1, d2] }
  | _ => none }
def FnExactColorByOrderWrongFalsely : Prop := fnExactColorByOrderRow.holds Tryd.pinned (OpenSpec.ofChange fnExactColorByOrderWrong)

/-- 'laws.FnExactChordalColoring': WHATEVER THE INPUT: true; the input reads as it did. -/
def fnExactChordalColoringSpec : ChangeSpec := { name := "fnExactChordalColoring", fn := fun _ => fun
  | [d] => { results := [.lit (.bool true)], args := [d] }
  | _ => none }
def fnExactChordalColoringRow : OpenClaim := { program := "ytpifgmmmmhenmabdoor", sum := "6d8aaa109f375936396d87f697aa40dd654b9353fd08605a407b50e8320aad77", func := "loop.example/g02081/laws.FnExactChordalColoring", spec := "fnExactChordalColoring", unfollowed := true, recurses := true, named := ["math/bits.deBruijn32tab", "math/bits.deBruijn64tab"], apart := false, laid := [("math/bits.deBruijn32tab", laid_math_bits_deBruijn32tab), ("math/bits.deBruijn64tab", laid_math_bits_deBruijn64tab)] }
def FnExactChordalColoringSaid : Prop := fnExactChordalColoringRow.holds Tryd.pinned (OpenSpec.ofChange fnExactChordalColoringSpec)

/-- ITS FALSE NEIGHBOUR: 'it returns false'. Refute it at one input. -/
def fnExactChordalColoringWrong : ChangeSpec := { name := "fnExactChordalColoring", fn := fun _ => fun
  | [d] => { results := [.lit (.bool false)], args := [d] }
  | _ => none }
def FnExactChordalColoringWrongFalsely : Prop := fnExactChordalColoringRow.holds Tryd.pinned (OpenSpec.ofChange fnExactChordalColoringWrong)

/-- 'laws.FnExactQuotientOf': WHATEVER THE INPUT: true; the input reads as it did. -/
def fnExactQuotientOfSpec : ChangeSpec := { name := "fnExactQuotientOf", fn := fun _ => fun
  | [d1, d2] => { results := [.lit (.bool true)], args := [d1, d2] }
  | _ => none }
def fnExactQuotientOfRow : OpenClaim := { program := "ytpifgmmmmhenmabdoor", sum := "6d8aaa109f375936396d87f697aa40dd654b9353fd08605a407b50e8320aad77", func := "loop.example/g02081/laws.FnExactQuotientOf", spec := "fnExactQuotientOf", unfollowed := true, recurses := true, named := ["math/bits.deBruijn32tab", "math/bits.deBruijn64tab"], apart := false, laid := [("math/bits.deBruijn32tab", laid_math_bits_deBruijn32tab), ("math/bits.deBruijn64tab", laid_math_bits_deBruijn64tab)] }
def FnExactQuotientOfSaid : Prop := fnExactQuotientOfRow.holds Tryd.pinned (OpenSpec.ofChange fnExactQuotientOfSpec)

/-- ITS FALSE NEIGHBOUR: 'it returns false'. Refute it at one input. -/
def fnExactQuotientOfWrong : ChangeSpec := { name := "fnExactQuotientOf", fn := fun _ => fun
  | [d1, d2] => { results := [.lit (.bool false)], args := [d1, d2] }
  | _ => none }
def FnExactQuotientOfWrongFalsely : Prop := fnExactQuotientOfRow.holds Tryd.pinned (OpenSpec.ofChange fnExactQuotientOfWrong)

/-- 'laws.FnExactMatchingOf': WHATEVER THE INPUT: true; the input reads as it did. -/
def fnExactMatchingOfSpec : ChangeSpec := { name := "fnExactMatchingOf", fn := fun _ => fun
  | [d] => { results := [.lit (.bool true)], args := [d] }
  | _ => none }
def fnExactMatchingOfRow : OpenClaim := { program := "ytpifgmmmmhenmabdoor", sum := "6d8aaa109f375936396d87f697aa40dd654b9353fd08605a407b50e8320aad77", func := "loop.example/g02081/laws.FnExactMatchingOf", spec := "fnExactMatchingOf", unfollowed := true, recurses := true, named := ["math/bits.deBruijn32tab", "math/bits.deBruijn64tab"], apart := false, laid := [("math/bits.deBruijn32tab", laid_math_bits_deBruijn32tab), ("math/bits.deBruijn64tab", laid_math_bits_deBruijn64tab)] }
def FnExactMatchingOfSaid : Prop := fnExactMatchingOfRow.holds Tryd.pinned (OpenSpec.ofChange fnExactMatchingOfSpec)

/-- ITS FALSE NEIGHBOUR: 'it returns false'. Refute it at one input. -/
def fnExactMatchingOfWrong : ChangeSpec := { name := "fnExactMatchingOf", fn := fun _ => fun
  | [d] => { results := [.lit (.bool false)], args := [d] }
  | _ => none }
def FnExactMatchingOfWrongFalsely : Prop := fnExactMatchingOfRow.holds Tryd.pinned (OpenSpec.ofChange fnExactMatchingOfWrong)

/- THE SECOND FORM. 'bulk': how many values and letters a reading holds, each counted each time it is reached (what is shared counts as often as it is met; a slice's spare places count too). A statement '..UptoSaid' is the law's where the arguments, and the package variables that the reading takes, are together of bulk at most 1048576: NARROWER than '..Said'. Prove '..Said' where nothing that the law and all that it calls make is longer than what came in: it says more and counts as full. Else prove '..UptoSaid'. A law counts once. -/
mutual
def uptoBulk {H : Type} : DataW H → Nat
  | .lit (.string bytes) => bytes.length + 1
  | .lit _ => 1
  | .nil => 1
  | .ptr d => uptoBulk d + 1
  | .slice elems spare => uptoBulkAll elems + uptoBulkAll spare + 1
  | .agg parts => uptoBulkAll parts + 1
  | .iface _ d => uptoBulk d + 1
  | .map entries => uptoBulkEntries entries + 1
  | .held _ => 1
def uptoBulkAll {H : Type} : List (DataW H) → Nat
  | [] => 0
  | d :: r => uptoBulk d + uptoBulkAll r
def uptoBulkEntries {H : Type} : List (Lit × DataW H) → Nat
  | [] => 0
  | x :: r => uptoBulkEntry x + uptoBulkEntries r
def uptoBulkEntry {H : Type} : Lit × DataW H → Nat
  | (.string bytes, d) => bytes.length + uptoBulk d + 1
  | (_, d) => uptoBulk d + 1
 end
def uptoSmall : (H : Type) → List (DataW H) → Bool := fun _ ds => decide (uptoBulkAll ds ≤ 1048576)
def OpenSpec.upto (s : _root_.Go.ChangeSpec) : _root_.Go.OpenSpec := { _root_.Go.OpenSpec.ofChange s with cond := some uptoSmall }

/-- 'laws.FnExactFindTriple', WHERE WHAT IT READS IS OF BULK AT MOST 1048576: true; the input reads as it did. -/
def fnExactFindTripleUptoRow : OpenClaim := { program := "ytpifgmmmmhenmabdoor", sum := "6d8aaa109f375936396d87f697aa40dd654b9353fd08605a407b50e8320aad77", func := "loop.example/g02081/laws.FnExactFindTriple", spec := "fnExactFindTriple", inPlace := ["internal/reflectlite.ValueOf", "(internal/reflectlite.Value).Type", "(internal/reflectlite.Value).IsNil", "internal/reflectlite.TypeOf", "(internal/reflectlite.Value).Elem", "(internal/reflectlite.Value).Set"], unfollowed := true, recurses := true, named := ["math/bits.deBruijn32tab", "math/bits.deBruijn64tab", "errors.errorType"], apart := false, laid := [("math/bits.deBruijn32tab", laid_math_bits_deBruijn32tab), ("math/bits.deBruijn64tab", laid_math_bits_deBruijn64tab), ("errors.errorType", laid_errors_errorType)], narrowed := true }
def FnExactFindTripleUptoSaid : Prop := fnExactFindTripleUptoRow.holds Tryd.pinned (OpenSpec.upto fnExactFindTripleSpec)

/-- 'laws.FnExactAddAll', WHERE WHAT IT READS IS OF BULK AT MOST 1048576: true; the input reads as it did. -/
def fnExactAddAllUptoRow : OpenClaim := { program := "ytpifgmmmmhenmabdoor", sum := "6d8aaa109f375936396d87f697aa40dd654b9353fd08605a407b50e8320aad77", func := "loop.example/g02081/laws.FnExactAddAll", spec := "fnExactAddAll", named := ["loop.example/g02081/impl.errNoGraph", "loop.example/g02081/impl.errNoEdge"], ifaces := true, apart := false, laid := [("loop.example/g02081/impl.errNoGraph", laid_loop_example_g02081_impl_errNoGraph), ("loop.example/g02081/impl.errNoEdge", laid_loop_example_g02081_impl_errNoEdge)], narrowed := true }
def FnExactAddAllUptoSaid : Prop := fnExactAddAllUptoRow.holds Tryd.pinned (OpenSpec.upto fnExactAddAllSpec)

/-- 'laws.FnExactColorByOrder', WHERE WHAT IT READS IS OF BULK AT MOST 1048576: true; the input reads as it did. -/
def fnExactColorByOrderUptoRow : OpenClaim := { program := "ytpifgmmmmhenmabdoor", sum := "6d8aaa109f375936396d87f697aa40dd654b9353fd08605a407b50e8320aad77", func := "loop.example/g02081/laws.FnExactColorByOrder", spec := "fnExactColorByOrder", unfollowed := true, recurses := true, named := ["math/bits.deBruijn32tab", "math/bits.deBruijn64tab"], apart := false, laid := [("math/bits.deBruijn32tab", laid_math_bits_deBruijn32tab), ("math/bits.deBruijn64tab", laid_math_bits_deBruijn64tab)], narrowed := true }
def FnExactColorByOrderUptoSaid : Prop := fnExactColorByOrderUptoRow.holds Tryd.pinned (OpenSpec.upto fnExactColorByOrderSpec)

/-- 'laws.FnExactChordalColoring', WHERE WHAT IT READS IS OF BULK AT MOST 1048576: true; the input reads as it did. -/
def fnExactChordalColoringUptoRow : OpenClaim := { program := "ytpifgmmmmhenmabdoor", sum := "6d8aaa109f375936396d87f697aa40dd654b9353fd08605a407b50e8320aad77", func := "loop.example/g02081/laws.FnExactChordalColoring", spec := "fnExactChordalColoring", unfollowed := true, recurses := true, named := ["math/bits.deBruijn32tab", "math/bits.deBruijn64tab"], apart := false, laid := [("math/bits.deBruijn32tab", laid_math_bits_deBruijn32tab), ("math/bits.deBruijn64tab", laid_math_bits_deBruijn64tab)], narrowed := true }
def FnExactChordalColoringUptoSaid : Prop := fnExactChordalColoringUptoRow.holds Tryd.pinned (OpenSpec.upto fnExactChordalColoringSpec)

/-- 'laws.FnExactQuotientOf', WHERE WHAT IT READS IS OF BULK AT MOST 1048576: true; the input reads as it did. -/
def fnExactQuotientOfUptoRow : OpenClaim := { program := "ytpifgmmmmhenmabdoor", sum := "6d8aaa109f375936396d87f697aa40dd654b9353fd08605a407b50e8320aad77", func := "loop.example/g02081/laws.FnExactQuotientOf", spec := "fnExactQuotientOf", unfollowed := true, recurses := true, named := ["math/bits.deBruijn32tab", "math/bits.deBruijn64tab"], apart := false, laid := [("math/bits.deBruijn32tab", laid_math_bits_deBruijn32tab), ("math/bits.deBruijn64tab", laid_math_bits_deBruijn64tab)], narrowed := true }
def FnExactQuotientOfUptoSaid : Prop := fnExactQuotientOfUptoRow.holds Tryd.pinned (OpenSpec.upto fnExactQuotientOfSpec)

/-- 'laws.FnExactMatchingOf', WHERE WHAT IT READS IS OF BULK AT MOST 1048576: true; the input reads as it did. -/
def fnExactMatchingOfUptoRow : OpenClaim := { program := "ytpifgmmmmhenmabdoor", sum := "6d8aaa109f375936396d87f697aa40dd654b9353fd08605a407b50e8320aad77", func := "loop.example/g02081/laws.FnExactMatchingOf", spec := "fnExactMatchingOf", unfollowed := true, recurses := true, named := ["math/bits.deBruijn32tab", "math/bits.deBruijn64tab"], apart := false, laid := [("math/bits.deBruijn32tab", laid_math_bits_deBruijn32tab), ("math/bits.deBruijn64tab", laid_math_bits_deBruijn64tab)], narrowed := true }
def FnExactMatchingOfUptoSaid : Prop := fnExactMatchingOfUptoRow.holds Tryd.pinned (OpenSpec.upto fnExactMatchingOfSpec)

end Rows
end Go.Proofs.YtpifgmmmmhenmabDoor
