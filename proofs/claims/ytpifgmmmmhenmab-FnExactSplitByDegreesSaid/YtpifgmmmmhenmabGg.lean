/- Walks over the laws' own helpers for graphs. -/
import Derived.Test.YtpifgmmmmhenmabGw
namespace Go.Proofs.Ytpifgmmmmhenmab
set_option linter.unusedVariables false
set_option linter.unusedSimpArgs false
open Go.RowKit

theorem szGraph_fits (g : Int) (v : Value) (l : List Int) (n : Int) (w : World) (h : Ints w v l) (h0 : (l.length : Int) ≤ n) (h1 : n ≤ 1048576) :
    Calls Try.prog 9 #[.agg #[.int .i64 g, v], .int .i64 n] w fun e w' => e = .returned (.int .i64 (n - l.length)) ∧ Below w.heap.size w w' := by
  have hn : (0 : Int) ≤ n - l.length := by omega
  obtain ⟨a, cap, rfl, -, -⟩ := h.form
  have HI := Lib.hid h
  clear h
  go_enter Try.func9, Try.ntmps9
  go_wp2_with fail
  refine (szIntS_fits _ l n _ (HI.out.alloc _) h0 h1).mono ?_
  rintro e w1 ⟨rfl, rfl⟩
  go_wp2
  go_ret
  exact ⟨rfl, (Below.refl _ _).alloc (Nat.le_refl _) _⟩

theorem szGraph_over (g : Int) (v : Value) (l : List Int) (n : Int) (w : World) (h : Ints w v l) (h0 : n < (l.length : Int)) (h1 : 0 ≤ n) :
    Calls Try.prog 9 #[.agg #[.int .i64 g, v], .int .i64 n] w fun e w' => e = .returned (.int .i64 (-1)) ∧ Below w.heap.size w w' := by
  obtain ⟨a, cap, rfl, -, -⟩ := h.form
  have HI := Lib.hid h
  clear h
  go_enter Try.func9, Try.ntmps9
  go_wp2_with fail
  refine (szIntS_over _ l n _ (HI.out.alloc _) h0 h1).mono ?_
  rintro e w1 ⟨rfl, rfl⟩
  go_wp2
  go_ret
  exact ⟨rfl, (Below.refl _ _).alloc (Nat.le_refl _) _⟩

/-- A graph whose rows are the call's own. -/
def GetsG (B : Nat) (w : World) (n : Int) (l : List Int) (e : Ending) (w' : World) : Prop := ∃ v, e = .returned (.agg #[.int .i64 n, v]) ∧ OwnI B w' v l ∧ Below w.heap.size w w'

set_option maxHeartbeats 1000000 in
theorem toGraph_any (n : Int) (v : Value) (l : List Int) (w : World) (h : Ints w v l) (hl : l.length ≤ 1048576) :
    Calls Try.prog 11 #[.agg #[.int .i64 n, v]] w (GetsG w.heap.size w n l) := by
  obtain ⟨a, cap, rfl, -, -⟩ := h.form
  have HI := Lib.hid h
  clear h
  go_enter Try.func11, Try.ntmps11
  go_wp2_with fail
  refine (toIntS_any _ l _ ?hi hl).mono ?_
  case hi => exact ((HI.out.alloc _).alloc _).alloc _
  rintro e w1 ⟨v', rfl, hown, hb⟩
  obtain ⟨hc, hf⟩ := bcell hb
  have hz : w.heap.size + 2 < w1.heap.size := by have := hb.size; simp at this; omega
  have HO := Lib.hid hown
  have HB := Lib.hid hb
  have hb0 : Below w.heap.size w w1 := ((((Below.refl _ w).alloc (Nat.le_refl _) _).alloc (by simp) _).alloc (by simp <;> omega) _).trans (hb.mono (by simp <;> omega))
  have HB0 := Lib.hid hb0
  have HS := Lib.hid (by simpa using HB.out.size : w.heap.size + 3 ≤ w1.heap.size)
  clear hown hb hb0
  rcases HO.out.form with ⟨rfl, -⟩ | ⟨g', cap', rfl, hBg, hg', -⟩
  all_goals
    go_wp2
    refine bodyPost_ret (v := .agg #[.int .i64 n, _]) (by simp [results, Try.results11, go_sem, hc, hz]; rfl) rfl ⟨_, rfl, ?_, ?_⟩
    · exact (((HO.out.setBelow (by simp <;> omega) _).setBelow (by simp <;> omega) _).setBelow (by simp <;> omega) _).mono (by simp <;> omega)
    · exact ((HB0.out.setCell (by simp <;> omega) _).setCell (by simp <;> omega) _).setCell (by simp <;> omega) _

set_option maxHeartbeats 1000000 in
theorem eqGraph_same (n : Int) (v u : Value) (l : List Int) (w : World) (h : Ints w v l) (h' : Ints w u l) (hl : l.length ≤ 100000000) :
    Calls Try.prog 14 #[.agg #[.int .i64 n, v], .agg #[.int .i64 n, u]] w fun e w' => e = .returned (.bool true) ∧ Below w.heap.size w w' := by
  obtain ⟨a, cap, rfl, -, -⟩ := h.form
  obtain ⟨a', cap', rfl, -, -⟩ := h'.form
  have HI := Lib.hid h
  have HI' := Lib.hid h'
  clear h h'
  go_enter Try.func14, Try.ntmps14
  go_wp2_with fail
  refine (eqIntS_same _ _ l _ ((HI.out.alloc _).alloc _) ((HI'.out.alloc _).alloc _) hl).mono ?_
  rintro e w1 ⟨rfl, hb⟩
  have HB := Lib.hid hb
  clear hb
  go_wp2
  go_ret
  exact ⟨rfl, (((Below.refl _ w).alloc (Nat.le_refl _) _).alloc (by simp) _).trans (HB.out.mono (by simp <;> omega))⟩

set_option maxHeartbeats 1000000 in
theorem markGraph_any (B : Nat) (n : Int) (v : Value) (l : List Int) (k : Int) (w : World) (h : OwnI B w v l) (hl : l.length ≤ 100000000) (k0 : 0 ≤ k) (k1 : k ≤ 100000000) :
    Calls Try.prog 15 #[.agg #[.int .i64 n, v], .int .i64 k] w fun e w' => e = .returned (.int .i64 (k + l.length)) ∧ OwnI B w' v (marks k l.length) ∧ w.grownBy w' v.ownBlock := by
  obtain ⟨a, cap, rfl, -, -⟩ := h.ints.form
  have HI := Lib.hid h
  clear h
  go_enter Try.func15, Try.ntmps15
  go_wp2_with fail
  refine (markIntS_any B _ l k _ (HI.out.alloc _) hl k0 k1).mono ?_
  rintro e w1 ⟨rfl, ho, hg⟩
  have HO := Lib.hid ho
  have HG := Lib.hid hg
  clear ho hg
  go_wp2
  go_ret
  exact ⟨rfl, HO.out, grown_trans (grown_alloc _ _ _) HG.out⟩

/-- A boxed graph argument, wherever only what is new has turned since the box was laid. -/
def ArgG (T : TypeId) (w : World) (n : Int) (v : Value) (l : List Int) (wr : World) : Prop :=
  wr.cell? ⟨w.heap.size, 0, none⟩ = some (.int .i64 n) ∧ wr.cell? ⟨w.heap.size, 1, none⟩ = some v ∧ Ints wr v l ∧ Below w.heap.size w wr ∧ w.heap.size < wr.heap.size

theorem argG {T : TypeId} {w wr : World} {n : Int} {a : Option Addr} {len cap : Nat} {l : List Int} (h : Ints w (.slice a len cap) l) (hb : Below (w.heap.size + 1) (w.alloc (.cells #[.int .i64 n, .slice a len cap] T)) wr) : ArgG T w n (.slice a len cap) l wr := by
  refine ⟨by rw [hb.cell (p := ⟨w.heap.size, 0, none⟩) (by simp)]; simp [go_sem], by rw [hb.cell (p := ⟨w.heap.size, 1, none⟩) (by simp)]; simp [go_sem], (h.alloc _).below hb (by simp), ((Below.refl _ w).alloc (Nat.le_refl _) _).trans (hb.mono (by omega)), ?_⟩
  have := hb.size
  simp at this
  omega

end Go.Proofs.Ytpifgmmmmhenmab
