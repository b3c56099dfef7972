/- slices.Clone at []int. -/
import Derived.Test.YtpifgmmmmhenmabGl
import Derived.Test.YtpifgmmmmhenmabGw
import Derived.Lib.SliceRun
import Derived.WalkSpells
namespace Go.Proofs.Ytpifgmmmmhenmab
set_option linter.unusedVariables false
set_option linter.unusedSimpArgs false
open Go.RowKit

theorem OwnI.lit0n (w : World) (B : Nat) (hB : B ≤ w.heap.size) : OwnI B (w.alloc (.cells #[] 3)) (.slice (some ⟨w.heap.size, 0, none⟩) 0 0) [] :=
  ⟨inI64_nil, by simp [iv], .inr ⟨w.heap.size, 0, #[], rfl, hB, by show (w.heap.push _)[w.heap.size]? = _; rw [Array.getElem?_push_size], by simp, by unfold maxLen; omega, by simp, by simp [iv]⟩⟩

set_option maxHeartbeats 1000000 in
set_option maxRecDepth 100000 in
theorem slicesClone7 (v : Value) (l : List Int) (w : World) (h : Ints w v l) (hnil : v = .slice none 0 0 ∨ ∃ ad cap, v = .slice (some ad) l.length cap) (hlen : l.length ≤ 1048576) :
    Calls Try.prog 45 #[v] w (GetsI w.heap.size w l) := by
  obtain ⟨i0, hi, hz0, hz1, hz2⟩ := info_parts infoInt
  have HNIL := Lib.hid hnil
  have HL := Lib.hid h
  have HE := Lib.hid (OwnI.lit0n w w.heap.size (Nat.le_refl _))
  have HB0 := Lib.hid ((Below.refl w.heap.size w).alloc (Nat.le_refl _) (.cells #[] 3))
  have qT : ∀ (w : World) (a : Option Addr) (n c n' c' : Nat), (binOp .eql 22 (.slice a n c) (.slice none n' c')).run Try.prog w = .ok (.bool a.isNone) w := fun w a n c n' c' => Lib.run_eql_slice_nil w _ _ a n c n' c' Try.underlying22
  have j0 : (none : Option Addr).isNone = true := rfl
  have j1 : ∀ a : Addr, (some a).isNone = false := fun _ => rfl
  rcases hnil with rfl | ⟨ad, cap, rfl⟩
  · have HLN := Lib.hid (show l = [] from HL.out.none_nil)
    clear h
    go_enter Try.func45, Try.ntmps45
    go_wp2
    go_ret
    exact ⟨_, rfl, by rw [HLN.out]; exact ⟨inI64_nil, World.ownsRow_nil _ _ _ _⟩, Below.refl _ _⟩
  · clear h
    go_enter Try.func45, Try.ntmps45
    go_wp2_with (at_builtin; refine wpList_append_ints rfl (.tmp 5) (.tmp 6) 22 rfl w.heap.size i0 Try.underlying22 hi hz0 hz1 hz2 _ [] rfl HE.out _ l rfl (HL.out.alloc _) HNIL.out (by simp; omega) (by simp) ?_)
    intro v1 w1 ho1 hg1 hne1
    have HO1 := Lib.hid (show OwnI w.heap.size w1 v1 l from ho1)
    have HW := Lib.hid (HB0.out.grown hg1 (by simp) (fun q hq => (HE.out.lt q hq).1))
    clear ho1 hg1 hne1
    go_wp2
    go_ret
    exact ⟨_, rfl, HO1.out, HW.out⟩

end Go.Proofs.Ytpifgmmmmhenmab
