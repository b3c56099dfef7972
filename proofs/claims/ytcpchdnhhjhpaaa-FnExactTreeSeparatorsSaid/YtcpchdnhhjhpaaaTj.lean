/- Closed facts of a row, one by one. -/
import Derived.Test.YtcpchdnhhjhpaaaRows
import Derived.JoinedOf
import Derived.KernelRfl
namespace Go.Proofs.Ytcpchdnhhjhpaaa.fnExactTreeSeparators

theorem and_t {a b : Bool} (h : a = true) (k : b = true) : (a && b) = true := by rw [h, k]; rfl

theorem jf0 : (Rows.fnExactTreeSeparatorsRow.wf (OpenSpec.ofChange Rows.fnExactTreeSeparatorsSpec)) = true := by kernel_rfl

theorem jf1 : (laidOutB Try.prog) = true := by kernel_rfl

theorem jf2 : (mapsRowed Try.prog) = true := by kernel_rfl

theorem jf3 : (Try.f12.params.all (Try.prog.readableRec ·)) = true := by kernel_rfl

theorem jf4 : (namedTie Try.prog Rows.fnExactTreeSeparatorsRow.named Rows.fnExactTreeSeparatorsSpec.vars) = true := by kernel_rfl

theorem jf5 : ((Rows.fnExactTreeSeparatorsRow.stops == [])) = true := by kernel_rfl

theorem jf6 : ((Try.prog.stops == [])) = true := by kernel_rfl

theorem jf7 : ((Rows.fnExactTreeSeparatorsRow.knobs == [])) = true := by kernel_rfl

theorem jf8 : ((Try.prog.stopKnobs == [])) = true := by kernel_rfl

theorem jf9 : ((Rows.fnExactTreeSeparatorsRow.inPlace == Try.prog.inPlace 12)) = true := by kernel_rfl

theorem jf10 : ((Rows.fnExactTreeSeparatorsRow.unfollowed == Try.prog.unfollowed 12)) = true := by kernel_rfl

theorem jf11 : ((Rows.fnExactTreeSeparatorsRow.recurses == Try.prog.recurses 12)) = true := by kernel_rfl

theorem jf12 : ((Rows.fnExactTreeSeparatorsRow.named == Try.prog.varsNamed 12)) = true := by kernel_rfl

theorem jf13 : ((Rows.fnExactTreeSeparatorsRow.maps == (Try.f12.params.toList ++ Rows.fnExactTreeSeparatorsSpec.plain.varTypes Try.prog).any (Try.prog.mapsRec ·))) = true := by kernel_rfl

theorem jf14 : ((Rows.fnExactTreeSeparatorsRow.ifaces == (Try.f12.params.toList ++ Rows.fnExactTreeSeparatorsSpec.plain.varTypes Try.prog).any (Try.prog.ifacesRec ·))) = true := by kernel_rfl

theorem jf15 : ((Rows.fnExactTreeSeparatorsRow.mapsOut == Try.prog.mapsAmong Try.f12.resultTypes.toList)) = true := by kernel_rfl

theorem jf16 : ((Rows.fnExactTreeSeparatorsRow.loops == (Try.f12.params.toList ++ Rows.fnExactTreeSeparatorsSpec.plain.varTypes Try.prog).any (Try.prog.loopsFrom ·))) = true := by kernel_rfl

theorem jf17 : ((Rows.fnExactTreeSeparatorsRow.wideKeys == (Try.f12.params.toList ++ Rows.fnExactTreeSeparatorsSpec.plain.varTypes Try.prog ++ Try.f12.resultTypes.toList).any (Try.prog.wideKeysFrom ·))) = true := by kernel_rfl

theorem jf18 : (Rows.fnExactTreeSeparatorsSpec.vars.all (Try.prog.varReadable ·)) = true := by kernel_rfl

theorem jf19 : (Try.f12.resultTypes.all (fun t => Try.prog.readableRec t && decide (t < Try.prog.types.size))) = true := by kernel_rfl

theorem jf20 : ((Rows.fnExactTreeSeparatorsRow.ifacesOut == Try.f12.resultTypes.toList.any (Try.prog.ifacesRec ·))) = true := by kernel_rfl

theorem jf21 : ((Rows.fnExactTreeSeparatorsRow.loopsOut == Try.f12.resultTypes.toList.any (Try.prog.loopsFrom ·))) = true := by kernel_rfl

theorem jf22 : ((Rows.fnExactTreeSeparatorsRow.plainKeys == Try.prog.plainKeys)) = true := by kernel_rfl

theorem jf23 : (Rows.fnExactTreeSeparatorsRow.shortTexts.isNone) = true := by kernel_rfl

theorem jf24 : (Try.prog.stopsHeard) = true := by kernel_rfl

theorem jf25 : (Try.prog.mayEnter) = true := by kernel_rfl

theorem jf26 : ((Rows.fnExactTreeSeparatorsRow.lifted == Try.prog.liftsFinal)) = true := by kernel_rfl

theorem jf27 : ((Try.prog.make == some Rows.fnExactTreeSeparatorsRow.make)) = true := by kernel_rfl

theorem jf28 : ((Rows.fnExactTreeSeparatorsRow.kinds == (if Rows.fnExactTreeSeparatorsRow.domain.isEmpty then [] else Try.f12.params.toList.map fun t => match Try.prog.underlying t with | some (.int k) => some k | _ => none))) = true := by kernel_rfl

theorem jf29 : ((Rows.fnExactTreeSeparatorsRow.pinned == Rows.fnExactTreeSeparatorsRow.pinnedBy)) = true := by kernel_rfl

theorem jf30 : ((Rows.fnExactTreeSeparatorsRow.veiled == (Try.f12.params.toList ++ Rows.fnExactTreeSeparatorsSpec.plain.varTypes Try.prog ++ Try.f12.resultTypes.toList).any (Try.prog.veiledRec ·))) = true := by kernel_rfl

theorem jf31 : (Rows.fnExactTreeSeparatorsRow.veiledFits Try.prog Try.f12.params.toList (Try.f12.params.toList ++ Rows.fnExactTreeSeparatorsSpec.plain.varTypes Try.prog ++ Try.f12.resultTypes.toList)) = true := by kernel_rfl

set_option maxRecDepth 100000 in
theorem closed : joinedFacts Try.prog 12 Try.f12 Rows.fnExactTreeSeparatorsSpec Rows.fnExactTreeSeparatorsRow = true := (and_t (and_t (and_t (and_t (and_t (and_t (and_t (and_t (and_t (and_t (and_t (and_t (and_t (and_t (and_t (and_t (and_t (and_t (and_t (and_t (and_t (and_t (and_t (and_t (and_t (and_t (and_t (and_t (and_t (and_t (and_t jf0 jf1) jf2) jf3) jf4) jf5) jf6) jf7) jf8) jf9) jf10) jf11) jf12) jf13) jf14) jf15) jf16) jf17) jf18) jf19) jf20) jf21) jf22) jf23) jf24) jf25) jf26) jf27) jf28) jf29) jf30) jf31)

end Go.Proofs.Ytcpchdnhhjhpaaa.fnExactTreeSeparators
