/- Closed facts of the seat's program: that it may be entered, what it lifts, how it is made. -/
import Derived.Test.YteikiifjiapjaacDoorRows
import Derived.JoinedOf
import Derived.KernelRfl
namespace Go.Proofs.YteikiifjiapjaacDoor

theorem jMay : Tryd.prog.mayEnter = true := by kernel_rfl

theorem jLift : (Rows.fnExactQuotientOfRow.lifted == Tryd.prog.liftsFinal) = true := by kernel_rfl

theorem jMake : (Tryd.prog.make == some Rows.fnExactQuotientOfRow.make) = true := by kernel_rfl

theorem and_t {a b : Bool} (h : a = true) (k : b = true) : (a && b) = true := by rw [h, k]; rfl

end Go.Proofs.YteikiifjiapjaacDoor
