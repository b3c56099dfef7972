/- SimplicialOf. -/
import Derived.Test.YtgfndgjabhabjabT1
import Derived.Test.YtgfndgjabhabjabV6
namespace Go.Proofs.Ytgfndgjabhabjab
set_option linter.unusedVariables false
set_option linter.unusedSimpArgs false
open Go.RowKit

/-- Those below k whose neighbours are a clique. -/
def simpL (n : Int) (l : List Int) (k : Nat) : List Int := ((List.range k).filter fun v => decide (CliqueS n l (nth l v))).map fun v : Nat => (v : Int)

theorem simpL_succ (n : Int) (l : List Int) (k : Nat) : simpL n l (k + 1) = simpL n l k ++ (if CliqueS n l (nth l k) then [(k : Int)] else []) := by
  unfold simpL
  rw [List.range_succ, List.filter_append, List.map_append]
  by_cases h : CliqueS n l (nth l k) <;> simp [h]

theorem simpL_length (n : Int) (l : List Int) (k : Nat) : (simpL n l k).length ≤ k := by
  unfold simpL
  have := List.length_filter_le (fun v => decide (CliqueS n l (nth l v))) (List.range k)
  simpa using this

def simpR (n : Int) (l : List Int) : List Int := if IsG n l then simpL n l l.length else []

theorem simpR_length (n : Int) (l : List Int) : (simpR n l).length ≤ 7 := by
  unfold simpR
  split
  · rename_i h
    have := simpL_length n l l.length
    have := h.2.1
    have := h.2.2.1
    omega
  · simp

theorem OwnI.lit0 (w : World) (B : Nat) (hB : B ≤ w.heap.size) : OwnI B (w.alloc (.cells #[] 3)) (.slice (some ⟨w.heap.size, 0, none⟩) 0 0) [] := by
  have := World.ownsRow_lit w #[] 0 (e := 3) (base := B) hB (by simp [maxLen]) (size := 1) rfl
  exact ⟨inI64_nil, by simpa [iv] using this⟩

theorem and_full {n : Int} {l : List Int} (hg : IsG n l) {v : Nat} (hv : v < l.length) : bits .and .i64 (nth l v) (2 ^ n.toNat - 1) = nth l v ∧ 0 ≤ nth l v ∧ nth l v ≤ 127 := by
  have hl7 : l.length ≤ 7 := by have := hg.2.1; have := hg.2.2.1; omega
  have hn : n.toNat = l.length := by have := hg.2.2.1; omega
  obtain ⟨h1, h2⟩ := hg.row_lt v hv
  have h3 := two_le _ hl7
  have h4 : 0 < 2 ^ l.length := Nat.pow_pos (by decide)
  have h5 : ((2 ^ l.length : Nat) : Int) = (2 : Int) ^ l.length := by push_cast; rfl
  have h6 := (bits_nat (rowN l v) (2 ^ l.length - 1) (by omega) (by omega)).1
  rw [sub_and (sub_full _ hl7 _ h1)] at h6
  have h7 : ((2 ^ l.length - 1 : Nat) : Int) = (2 : Int) ^ l.length - 1 := by omega
  rw [hn, h2]
  rw [h7] at h6
  exact ⟨h6, by omega, by omega⟩

set_option maxHeartbeats 2000000 in
set_option maxRecDepth 100000 in
theorem l6Simp_is (n : Int) (v : Value) (l : List Int) (k : Nat) (w : World) (h : Ints w v l) (hg : IsG n l) (hk : k < l.length) :
    Calls Try.prog 51 #[.agg #[.int .i64 n, v], .int .i64 k, .int .i64 (2 ^ n.toNat - 1)] w (SaysB (CliqueS n l (nth l k)) w) := by
  obtain ⟨b, off, cap, rfl, _, hmx, hb, hcell⟩ := h.pos (by omega)
  have HA := argG' (T := 28) (n := n) h
  obtain ⟨e1, z0, z1⟩ := and_full hg hk
  obtain ⟨z, hz⟩ : ∃ z, z = nth l k := ⟨_, rfl⟩
  obtain ⟨M, hM⟩ : ∃ M : Int, M = 2 ^ n.toNat - 1 := ⟨_, rfl⟩
  have d1 := hcell k hk
  rw [← hz] at d1 e1 z0 z1 ⊢
  rw [← hM] at e1 ⊢
  obtain ⟨w1, hw1⟩ : ∃ w1, w1 = w.alloc (.cells #[.int .i64 n, .slice (some ⟨b, off, none⟩) l.length cap] 28) := ⟨_, rfl⟩
  have HX : Hid (∀ X : Since w1, ArgG 28 w n (.slice (some ⟨b, off, none⟩) l.length cap) l X.val) := fun X => HA.out _ (since_below hw1 (by simp) X)
  have hx0 : ∀ X : Since w1, X.val.cell? ⟨w.heap.size, 0, none⟩ = some (.int .i64 n) := fun X => (HX.out X).1
  have hx1 : ∀ X : Since w1, X.val.cell? ⟨w.heap.size, 1, none⟩ = some (.slice (some ⟨b, off, none⟩) l.length cap) := fun X => (HX.out X).2.1
  have hx2 : ∀ X : Since w1, X.val.cell? ⟨b, off + k, none⟩ = some (.int .i64 z) := fun X => ((HX.out X).2.2.2.1.cell (p := ⟨b, off + k, none⟩) hb).trans d1
  unfold maxLen at hmx
  clear h hcell d1 hz hM hg
  go_enter Try.func51, Try.ntmps51
  go_wp2
  rw [← hw1]
  clear hw1
  refine wp_region_since (by kernel_rfl) (by kernel_rfl) ?_
  by_cases hq : CliqueS n l z
  · have HC1 : Hid (∀ X : Since w1, Calls Try.prog 63 #[.agg #[.int .i64 n, .slice (some ⟨b, off, none⟩) l.length cap], .int .i64 z] X.val fun e w' => e = .returned (.bool true) ∧ Below X.val.heap.size X.val w') := fun X => (specClique n _ l z _ (HX.out X).2.2.1).mono fun _ _ h => h.is_yes hq
    have HQ := Lib.hid hq
    clear hq
    repeat (go_big_quiet_step (exact since_call (HC1.out _)))
    refine wpQuiet_nil ?_
    intro X
    have HW := Lib.hid (HX.out X).2.2.2.1
    clear hx0 hx1 hx2 e1
    go_wp2
    go_ret
    exact SaysB.yes HQ.out HW.out
  · have HC1 : Hid (∀ X : Since w1, Calls Try.prog 63 #[.agg #[.int .i64 n, .slice (some ⟨b, off, none⟩) l.length cap], .int .i64 z] X.val fun e w' => e = .returned (.bool false) ∧ Below X.val.heap.size X.val w') := fun X => (specClique n _ l z _ (HX.out X).2.2.1).mono fun _ _ h => h.is_no hq
    have HQ := Lib.hid hq
    clear hq
    repeat (go_big_quiet_step (exact since_call (HC1.out _)))
    refine wpQuiet_nil ?_
    intro X
    have HW := Lib.hid (HX.out X).2.2.2.1
    clear hx0 hx1 hx2 e1
    go_wp2
    go_ret
    exact SaysB.no HQ.out HW.out

end Go.Proofs.Ytgfndgjabhabjab
