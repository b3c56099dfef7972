/- Walks over the program's ListOf: slices.Collect over its iterator. -/
import Derived.Test.YtpifgmmmmhenmacH3
import Derived.Test.YtpifgmmmmhenmacV1
import Derived.RangeFuncBox
namespace Go.Proofs.Ytpifgmmmmhenmac
set_option linter.unusedVariables false
set_option linter.unusedSimpArgs false
open Go.RowKit Go.Shelf
attribute [local go_sem] Oper.semAt_some

/-- The members of a set; none where it is no set. -/
def listR (x : Int) : List Int := if 0 ≤ x ∧ x ≤ 127 then listU x 7 else []

theorem listR_length (x : Int) : (listR x).length ≤ 7 := by
  unfold listR
  split
  · exact listU_length x 7
  · simp

/-- What has come so far. -/
def lst {x : Int} (pre : List (Mem x)) : List Int := pre.map fun y => (y.1 : Int)

def ApI (x : Int) (w : World) (pre : List (Mem x)) (W : World) : Prop := (∃ v, Boxed W w.heap.size 22 v ∧ W.ownsRow w.heap.size 3 1 v pre.length (iv (lst pre)) ∧ True) ∧ Below w.heap.size w W

theorem apI_own {x : Int} {w W1 : World} (hB : w.heap.size ≤ W1.heap.size) : OwnFrom W1.heap.size (ApI x w) :=
  OwnFrom.and ((holdsRow_own (β := List (Mem x)) w.heap.size w.heap.size 22 3 1 (fun pre => pre.length) (fun pre => iv (lst pre)) (fun _ _ => True)).from _) (ownFrom_below (Nat.le_refl _) hB)

set_option maxHeartbeats 2000000 in
set_option maxRecDepth 100000 in
theorem appendSeq_vin (Bn : Nat) (x : Int) (w : World) (hlt : Bn < w.heap.size) (hc : w.cell? ⟨Bn, 0, none⟩ = some (.int .i64 x)) :
    Calls Try.prog 85 #[.slice none 0 0, .func (.func 57) #[] #[.pointer (some ⟨Bn, 0, none⟩)]] w (GetsI w.heap.size w (listU x 7)) := by
  obtain ⟨i0, hi, hi0, hi1, hi2⟩ := info_parts infoInt
  refine (callsIn_wide (n := 4)).1 ?_
  refine callsIn_of_wp_marks Try.func85 rfl trivial ?_ rfl
  simp only [Try.ntmps85, List.size_toArray, List.length_cons, List.length_nil, Nat.reduceAdd, Nat.reduceSub, Array.replicate_succ, Array.replicate_zero, List.push_toArray, List.append_toArray, List.nil_append, List.cons_append]
  obtain ⟨W1, hW1⟩ : ∃ W1, W1 = w.alloc (.cells #[.slice none 0 0] 22) := ⟨_, rfl⟩
  have hz1 : W1.heap.size = w.heap.size + 1 := by rw [hW1]; simp
  have hc1 : W1.cell? ⟨Bn, 0, none⟩ = some (.int .i64 x) := by
    have h1 : Below w.heap.size w W1 := by rw [hW1]; exact (Below.refl _ w).alloc (Nat.le_refl _) _
    exact (h1.cell (p := ⟨Bn, 0, none⟩) hlt).trans hc
  have H0 : ApI x w [] W1 := ⟨⟨.slice none 0 0, by rw [hW1]; exact Boxed.new w _ _, ⟨rfl, .inl ⟨rfl, rfl⟩⟩, trivial⟩, by rw [hW1]; exact (Below.refl _ w).alloc (Nat.le_refl _) _⟩
  gi_wp2_with fail
  rw [← hW1]
  clear hW1
  refine wpIn_rangeFunc_ownF (w0 := W1) rfl (by omega) (gf := 57) (lb := #[.pointer (some ⟨Bn, 0, none⟩)]) rfl trivial (enters_of Try.func57 (by kernel_rfl) rfl)
    (vin_stopsC Fence.wide 3 trivial rfl (by omega) Bn x W1 (by omega) hc1) keepC_t (keepC_b (by omega)) (Below.refl _ _) (fun _ => rfl)
    (ApI x w) (fun _ _ _ => False) (apI_own (by omega)) (fun _ _ _ _ _ hs _ _ => hs) H0
    (fun y => { tmps := #[.slice none 0 0, .func (.func 57) #[] #[.pointer (some ⟨Bn, 0, none⟩)], .pointer (some ⟨w.heap.size, 0, none⟩), undef, .slice none 0 0, .int .i64 (y.1 : Int), .func (.func 57) #[] #[.pointer (some ⟨Bn, 0, none⟩)], .int .i64 (y.1 : Int), undef, undef, undef, undef, undef], defers := [] }) ?assign ?body ?done ?stop
  case assign =>
    intro l y W K hK
    gi_wp2
    exact hK
  case body =>
    rintro li pre y W ⟨⟨v, hQ, hR, -⟩, hB⟩ hlen
    have f1 := hQ.cell
    have f2 := hQ.frozen
    have hsz := hB.size
    obtain ⟨z, hz⟩ : ∃ z : Int, z = (y.1 : Int) := ⟨_, rfl⟩
    have HQ := Lib.hid hQ
    have HR := Lib.hid hR
    have HB := Lib.hid hB
    have HL := Lib.hid (show iv (lst pre) ++ [Value.int .i64 z] = iv (lst (pre ++ [y])) by rw [iv_snoc, hz]; simp [lst])
    rw [← hz]
    clear hQ hR hB hz
    gi_wp2_with (gi_at_builtin; refine wpListIn_append_own _ rfl (.tmp 8) (.tmp 10) 22 rfl w.heap.size 3 i0 (.int .i64 0) 1 8 Try.underlying22 hi hi0 hi1 hi2 rfl (by decide) v pre.length (iv (lst pre)) rfl (HR.out.alloc _) ⟨W.heap.size, 0, none⟩ 1 1 [.int .i64 z] rfl rfl (cell_one_new _ _ _) (fun u hu => by simp at hu; subst hu; rfl) (by unfold maxLen; omega) (by omega) (by simp; omega) ?_)
    intro v' w3 hown' hg3 hnil
    obtain ⟨g', cap', rfl⟩ := ownsRow_succ hown'
    obtain ⟨b1, b2, b3, b4, b5⟩ := HQ.out.appended (by decide) HR.out hsz (Nat.le_refl _) hown' hg3
    have f3 := b1.cell
    have f4 := b1.frozen
    have B2 := Lib.hid b2
    have B3 := Lib.hid b3
    have B4 := Lib.hid b4
    have B5 := Lib.hid b5
    clear b1 b2 b3 b4 b5 hown' hg3 hnil
    gi_wp2
    refine ⟨B4.out, B5.out.cell (p := ⟨Bn, 0, none⟩) hlt, ⟨_, B2.out, ?_, trivial⟩, HB.out.trans B5.out⟩
    have h3 := B3.out
    rw [HL.out] at h3
    simpa using h3
  case done =>
    rintro D ys W hD hys ⟨⟨v, hQ, hR, -⟩, hB⟩ hK
    have f1 := hQ.cell
    have hL : lst ys = listU x 7 := by
      show ys.map (fun y => ((y.1 : Nat) : Int)) = (memU x 7).map fun v : Nat => (v : Int)
      rw [← hys, List.map_map]
      rfl
    have HR := Lib.hid hR
    have HB := Lib.hid hB
    have hlen : ys.length = (listU x 7).length := by rw [← hL]; simp [lst]
    have HL := Lib.hid hL
    have HN := Lib.hid hlen
    clear hQ hR hB hys hL hlen
    gi_wp2
    refine ⟨by simp, .inl ⟨_, _, rfl, run_takeDeferred hK, ?_⟩⟩
    refine ⟨_, results_tmp rfl _ _ _, v, rfl, ⟨listU_in x 7 (by omega), ?_⟩, HB.out.trans (belowK_b (w := w) (Nat.le_refl _) W D _ _ (by omega) hK rfl rfl)⟩
    have h1 := ownsRow_putObj HR.out (.deferred none) hK rfl
    rw [HL.out, HN.out] at h1
    exact h1
  case stop =>
    rintro D c pre W hD hpre h hK
    exact h.elim

theorem collect_vin (Bn : Nat) (x : Int) (w : World) (hlt : Bn < w.heap.size) (hc : w.cell? ⟨Bn, 0, none⟩ = some (.int .i64 x)) :
    Calls Try.prog 74 #[.func (.func 57) #[] #[.pointer (some ⟨Bn, 0, none⟩)]] w (GetsI w.heap.size w (listU x 7)) := by
  go_enter Try.func74, Try.ntmps74
  go_wp2_with fail
  refine (appendSeq_vin Bn x w hlt hc).mono ?_
  rintro e w1 ⟨v, rfl, ho, hb⟩
  have HO := Lib.hid ho
  have HB := Lib.hid hb
  clear ho hb
  go_wp2
  go_ret
  exact ⟨v, rfl, HO.out, HB.out⟩

theorem OwnI.nil0 (B : Nat) (w : World) : OwnI B w (.slice none 0 0) [] := ⟨inI64_nil, rfl, .inl ⟨rfl, rfl⟩⟩

theorem implListOf (x : Int) (w : World) : Calls Try.prog 60 #[.int .i64 x] w (GetsI w.heap.size w (listR x)) := by
  by_cases h : 0 ≤ x ∧ x ≤ 127
  · have HP := Lib.hid (show listR x = listU x 7 by unfold listR; rw [if_pos h])
    obtain ⟨h0, h1⟩ := h
    go_enter Try.func60, Try.ntmps60
    go_wp2_with fail
    refine (isAnySet_yes x _ h0 h1).mono ?_
    rintro e w1 ⟨rfl, rfl⟩
    go_wp2_with fail
    refine (verticesIn_is x _).mono ?_
    rintro e w2 ⟨rfl, rfl⟩
    go_wp2_with fail
    refine (collect_vin w.heap.size x _ (by simp) (by simp [go_sem])).mono ?_
    rintro e w3 ⟨v, rfl, ho, hb⟩
    have HO := Lib.hid (ho.mono (B' := w.heap.size) (by simp))
    have HB := Lib.hid (((Below.refl _ w).alloc (Nat.le_refl _) _).trans (hb.mono (by simp)))
    clear ho hb
    go_wp2
    go_ret
    exact ⟨v, rfl, by rw [HP.out]; exact HO.out, HB.out⟩
  · have HP := Lib.hid (show listR x = [] by unfold listR; rw [if_neg h])
    have H := Lib.hid h
    clear h
    go_enter Try.func60, Try.ntmps60
    go_wp2_with fail
    refine (isAnySet_no x _ H.out).mono ?_
    rintro e w1 ⟨rfl, rfl⟩
    go_wp2
    go_ret
    exact ⟨_, rfl, by rw [HP.out]; exact OwnI.nil0 _ _, Below.refl _ _⟩

theorem specListOf (x : Int) (w : World) : Calls Try.prog 65 #[.int .i64 x] w (GetsI w.heap.size w (listR x)) := by
  by_cases h : 0 ≤ x ∧ x ≤ 127
  · rw [show listR x = listU x 7 by unfold listR; rw [if_pos h]]
    exact specListOf_yes x w h.1 h.2
  · rw [show listR x = [] by unfold listR; rw [if_neg h]]
    exact specListOf_no x w h

end Go.Proofs.Ytpifgmmmmhenmac
