/- SplitOf, CountSplits, IsSplit: the family as a value, and its first set. -/
import Derived.Test.YtbgkceekkinngacF1
import Derived.Laws.EntriesVeiled
namespace Go.Proofs.Ytbgkceekkinngac
set_option linter.unusedVariables false
set_option linter.unusedSimpArgs false
open Go.RowKit

theorem Rule1.on {f : FuncId} {cp : Array Value} {m : Nat} {r : Nat → Bool} {W0 W1 : World} (h : Rule1 f cp m r W0) (hb : Below W0.heap.size W0 W1) : Rule1 f cp m r W1 :=
  fun W x hx hbel => h W x hx (hb.trans (hbel.mono hb.size))

def splitB (n : Int) (l : List Int) (x : Nat) : Bool := decide (SplitS n l (x : Int))

/-- The first one, and whether there is one. -/
def headI (l : List Int) : Int := nth l 0

def headB : List Int → Bool
  | [] => false
  | _ :: _ => true

def SaysIB' (x : Int) (b : Bool) (w : World) (e : Ending) (w' : World) : Prop := e = .returned (.tuple #[.int .i64 x, .bool b]) ∧ Below w.heap.size w w'

set_option maxHeartbeats 2000000 in
set_option maxRecDepth 100000 in
theorem first_any (f : FuncId) (cp : Array Value) (r : Nat → Bool) (n : Int) (v : Value) (l : List Int) (w : World) (h : Ints w v l) (he : Enters f) (hr : IsG n l → Rule1 f cp (2 ^ l.length) r w) :
    Calls Try.prog 101 #[.agg #[.int .i64 n, v, .func (.func f) #[] cp]] w (SaysIB' (headI (famR n l r)) (headB (famR n l r)) w) := by
  obtain ⟨a, cap, rfl, -, -⟩ := h.form
  have HI := Lib.hid (h.alloc (.cells #[.int .i64 n, .slice a l.length cap, .func (.func f) #[] cp] 89))
  have HR := Lib.hid (fun hg => (hr hg).on ((Below.refl _ w).alloc (Nat.le_refl _) (.cells #[.int .i64 n, .slice a l.length cap, .func (.func f) #[] cp] 89)))
  have HL := Lib.hid (famR_length n l r)
  obtain ⟨R, hR⟩ : ∃ R, R = famR n l r := ⟨_, rfl⟩
  have HSP := Lib.hid (sets_any f cp r n _ l _ HI.out he HR.out)
  rw [← hR] at HSP HL ⊢
  clear h hR hr
  go_enter Try.func101, Try.ntmps101
  go_wp2_with fail
  refine HSP.out.mono ?_
  rintro e w2 ⟨v2, rfl, ho, hb⟩
  have HB := Lib.hid (((Below.refl _ w).alloc (Nat.le_refl _) _).trans (hb.mono (by simp)))
  have hO := ho.ints
  clear hb ho
  cases R with
  | nil =>
    obtain ⟨a2, cap2, rfl, -, -⟩ := hO.form
    clear hO
    go_wp2
    go_ret2
    exact ⟨rfl, HB.out⟩
  | cons x t =>
    obtain ⟨b2, off2, cap2, rfl, -, hmx, hlt, hcell⟩ := hO.pos (by simp)
    have hc : w2.cell? ⟨b2, off2, none⟩ = some (.int .i64 x) := hcell 0 (by simp)
    have hl1 : 1 ≤ (x :: t).length := by simp
    obtain ⟨L, hLL⟩ : ∃ L, L = (x :: t).length := ⟨_, rfl⟩
    have hL2 : L ≤ 128 := by rw [hLL]; exact HL.out
    rw [← hLL] at hl1 ⊢
    have d1 : ((L : Int) == 0) = false := by simp; omega
    unfold maxLen at hmx
    clear hcell hLL hO
    go_wp2
    go_ret2
    exact ⟨rfl, HB.out⟩

end Go.Proofs.Ytbgkceekkinngac
