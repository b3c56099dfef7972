/- SimplicialOf. -/
import Derived.Test.YtpifgmmmmhenmabT1
import Derived.Test.YtpifgmmmmhenmabV6
namespace Go.Proofs.Ytpifgmmmmhenmab
set_option linter.unusedVariables false
set_option linter.unusedSimpArgs false
open Go.RowKit

/-- Those below k whose neighbours are a clique. -/
def simpL (n : Int) (l : List Int) (k : Nat) : List Int := ((List.range k).filter fun v => decide (CliqueS n l (nth l v))).map fun v : Nat => (v : Int)

theorem simpL_succ (n : Int) (l : List Int) (k : Nat) : simpL n l (k + 1) = simpL n l k ++ (if CliqueS n l (nth l k) then [(k : Int)] else []) := by
  unfold simpL
  rw [List.range_succ, List.filter_append, List.map_append]
  by_cases h : CliqueS n l (nth l k) <;> simp [h]

theorem simpL_length (n : Int) (l : List Int) (k : Nat) : (simpL n l k).length ≤ k := by
  unfold simpL
  have := List.length_filter_le (fun v => decide (CliqueS n l (nth l v))) (List.range k)
  simpa using this

def simpR (n : Int) (l : List Int) : List Int := if IsG n l then simpL n l l.length else []

theorem simpR_length (n : Int) (l : List Int) : (simpR n l).length ≤ 7 := by
  unfold simpR
  split
  · rename_i h
    have := simpL_length n l l.length
    have := h.2.1
    have := h.2.2.1
    omega
  · simp

theorem OwnI.lit0 (w : World) (B : Nat) (hB : B ≤ w.heap.size) : OwnI B (w.alloc (.cells #[] 3)) (.slice (some ⟨w.heap.size, 0, none⟩) 0 0) [] := by
  have := World.ownsRow_lit w #[] 0 (e := 3) (base := B) hB (by simp [maxLen]) (size := 1) rfl
  exact ⟨inI64_nil, by simpa [iv] using this⟩

theorem and_full {n : Int} {l : List Int} (hg : IsG n l) {v : Nat} (hv : v < l.length) : bits .and .i64 (nth l v) (2 ^ n.toNat - 1) = nth l v ∧ 0 ≤ nth l v ∧ nth l v ≤ 127 := by
  have hl7 : l.length ≤ 7 := by have := hg.2.1; have := hg.2.2.1; omega
  have hn : n.toNat = l.length := by have := hg.2.2.1; omega
  obtain ⟨h1, h2⟩ := hg.row_lt v hv
  have h3 := two_le _ hl7
  have h4 : 0 < 2 ^ l.length := Nat.pow_pos (by decide)
  have h5 : ((2 ^ l.length : Nat) : Int) = (2 : Int) ^ l.length := by push_cast; rfl
  have h6 := (bits_nat (rowN l v) (2 ^ l.length - 1) (by omega) (by omega)).1
  rw [sub_and (sub_full _ hl7 _ h1)] at h6
  have h7 : ((2 ^ l.length - 1 : Nat) : Int) = (2 : Int) ^ l.length - 1 := by omega
  rw [hn, h2]
  rw [h7] at h6
  exact ⟨h6, by omega, by omega⟩

end Go.Proofs.Ytpifgmmmmhenmab
