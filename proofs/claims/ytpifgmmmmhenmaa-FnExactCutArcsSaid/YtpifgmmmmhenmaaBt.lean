/- Walks over the laws' own helpers for structs of ints and slices of ints. -/
import Derived.Test.YtpifgmmmmhenmaaGg
import Derived.Test.YtpifgmmmmhenmaaBx
namespace Go.Proofs.Ytpifgmmmmhenmaa
set_option linter.unusedVariables false
set_option linter.unusedSimpArgs false
open Go.RowKit

def GetsTree (w : World) (l0 : List Int) (l1 : List Int) (e : Ending) (w' : World) : Prop := ∃ u0 u1 B1, e = .returned (.agg #[u0, u1]) ∧ OwnI w.heap.size w' u0 l0 ∧ OwnI B1 w' u1 l1 ∧ w.heap.size ≤ B1 ∧ (∀ k, u0.ownBlock = some k → k < B1) ∧ Below w.heap.size w w'

def GetsModuleTree (w : World) (l0 : List Int) (l1 : List Int) (l2 : List Int) (e : Ending) (w' : World) : Prop := ∃ u0 u1 u2 B1 B2, e = .returned (.agg #[u0, u1, u2]) ∧ OwnI w.heap.size w' u0 l0 ∧ OwnI B1 w' u1 l1 ∧ OwnI B2 w' u2 l2 ∧ w.heap.size ≤ B1 ∧ (∀ k, u0.ownBlock = some k → k < B1) ∧ B1 ≤ B2 ∧ (∀ k, u1.ownBlock = some k → k < B2) ∧ Below w.heap.size w w'

theorem szArcs_fits (n0 : Int) (v1 : Value) (v2 : Value) (l1 : List Int) (l2 : List Int) (n : Int) (w : World) (h1 : Ints w v1 l1) (h2 : Ints w v2 l2) (hn : (l1.length : Int) + (l2.length : Int) ≤ n) (hn1 : n ≤ 1048576) :
    Calls Try.prog 33 #[.agg #[.int .i64 n0, v1, v2], .int .i64 n] w fun e w' => e = .returned (.int .i64 (n - l1.length - l2.length)) ∧ Below w.heap.size w w' := by
  have hp1 : (0 : Int) ≤ n - l1.length := by omega
  have hq1 : n - l1.length ≤ 1048576 := by omega
  have hp2 : (0 : Int) ≤ n - l1.length - l2.length := by omega
  have hq2 : n - l1.length - l2.length ≤ 1048576 := by omega
  obtain ⟨a1, cap1, rfl, -, -⟩ := h1.form
  have H1 := Lib.hid h1
  clear h1
  obtain ⟨a2, cap2, rfl, -, -⟩ := h2.form
  have H2 := Lib.hid h2
  clear h2
  go_enter Try.func33, Try.ntmps33
  go_wp2_with fail
  refine (szIntS_fits _ l1 _ _ (H1.out.alloc _) (by omega) (by omega)).mono ?_
  rintro e w1 ⟨rfl, rfl⟩
  go_wp2_with fail
  refine (szIntS_fits _ l2 _ _ (H2.out.alloc _) (by omega) (by omega)).mono ?_
  rintro e w1 ⟨rfl, rfl⟩
  go_wp2
  go_ret
  exact ⟨rfl, (Below.refl _ w).alloc (Nat.le_refl _) _⟩

theorem szArcs_over (n0 : Int) (v1 : Value) (v2 : Value) (l1 : List Int) (l2 : List Int) (n : Int) (w : World) (h1 : Ints w v1 l1) (h2 : Ints w v2 l2) (hn : n < (l1.length : Int) + (l2.length : Int)) (hn0 : 0 ≤ n) (hn1 : n ≤ 1048576) :
    Calls Try.prog 33 #[.agg #[.int .i64 n0, v1, v2], .int .i64 n] w fun e w' => e = .returned (.int .i64 (-1)) ∧ Below w.heap.size w w' := by
  obtain ⟨a1, cap1, rfl, -, -⟩ := h1.form
  have H1 := Lib.hid h1
  clear h1
  obtain ⟨a2, cap2, rfl, -, -⟩ := h2.form
  have H2 := Lib.hid h2
  clear h2
  by_cases c1 : n < (l1.length : Int)
  · skip
    go_enter Try.func33, Try.ntmps33
    go_wp2_with fail
    refine (szIntS_over _ l1 _ _ (H1.out.alloc _) (by omega) (by omega)).mono ?_
    rintro e w1 ⟨rfl, rfl⟩
    go_wp2
    go_ret
    exact ⟨rfl, (Below.refl _ w).alloc (Nat.le_refl _) _⟩
  have hp1 : (0 : Int) ≤ n - l1.length := by omega
  go_enter Try.func33, Try.ntmps33
  go_wp2_with fail
  refine (szIntS_fits _ l1 _ _ (H1.out.alloc _) (by omega) (by omega)).mono ?_
  rintro e w1 ⟨rfl, rfl⟩
  go_wp2_with fail
  refine (szIntS_over _ l2 _ _ (H2.out.alloc _) (by omega) (by omega)).mono ?_
  rintro e w1 ⟨rfl, rfl⟩
  go_wp2
  go_ret
  exact ⟨rfl, (Below.refl _ w).alloc (Nat.le_refl _) _⟩

def GetsArcs (w : World) (n0 : Int) (l1 : List Int) (l2 : List Int) (e : Ending) (w' : World) : Prop := ∃ u1 u2 B2, e = .returned (.agg #[.int .i64 n0, u1, u2]) ∧ OwnI w.heap.size w' u1 l1 ∧ OwnI B2 w' u2 l2 ∧ w.heap.size ≤ B2 ∧ (∀ k, u1.ownBlock = some k → k < B2) ∧ Below w.heap.size w w'

set_option maxHeartbeats 1000000 in
set_option maxRecDepth 100000 in
theorem toArcs_any (n0 : Int) (v1 : Value) (v2 : Value) (l1 : List Int) (l2 : List Int) (w : World) (h1 : Ints w v1 l1) (h2 : Ints w v2 l2) (k1 : l1.length ≤ 1048576) (k2 : l2.length ≤ 1048576) :
    Calls Try.prog 35 #[.agg #[.int .i64 n0, v1, v2]] w (GetsArcs w n0 l1 l2) := by
  obtain ⟨a1, cap1, rfl, -, -⟩ := h1.form
  have H1 := Lib.hid h1
  clear h1
  obtain ⟨a2, cap2, rfl, -, -⟩ := h2.form
  have H2 := Lib.hid h2
  clear h2
  go_enter Try.func35, Try.ntmps35
  go_wp2_with fail
  refine (toIntS_any _ l1 _ ?hi1 k1).mono ?_
  case hi1 => exact ((H1.out.alloc _).alloc _).alloc _
  rintro e w1 ⟨u1, rfl, ho1, hb⟩
  have hz : w.heap.size + 3 ≤ w1.heap.size := by have := hb.size; simpa using this
  have A := Lib.hid (show Box (w.heap.size) [.int .i64 n0, .slice a1 l1.length cap1, .slice a2 l2.length cap2] w1 from (((Box.new w _ _).keep (grown_alloc _ _ none) (by simp)).keep (grown_alloc _ _ none) (by simp)).on hb)
  have O := Lib.hid (show Box (w.heap.size + 1 + 1) [.int .i64 n0, .slice none 0 0, .slice none 0 0] w1 by have h := (Box.new ((w.alloc _).alloc _) _ _).on hb; simpa using h)
  have R := Lib.hid (show Box (w.heap.size + 1) [.int .i64 0, .slice none 0 0, .slice none 0 0] w1 by have h := ((Box.new (w.alloc _) _ _).keep (grown_alloc _ _ none) (by simp)).on hb; simpa using h)
  have F := Lib.hid (show Below w.heap.size w w1 from ((((Below.refl _ w).alloc (Nat.le_refl _) _).alloc (by simp) _).alloc (by simp <;> omega) _).trans (hb.mono (by simp <;> omega)))
  have O1 := Lib.hid (show OwnI (w.heap.size + 3) w1 u1 l1 from ho1.mono (by simp))
  clear ho1 hb
  obtain ⟨b1, c1, hu1⟩ : ∃ b c, u1 = .slice b l1.length c := by obtain ⟨b, c, h, -, -⟩ := O1.out.ints.form; exact ⟨b, c, h⟩
  subst hu1
  obtain ⟨a_0, a_1, a_2, azz⟩ : w1.cell? ⟨w.heap.size, 0, none⟩ = some (.int .i64 n0) ∧ w1.cell? ⟨w.heap.size, 1, none⟩ = some (.slice a1 l1.length cap1) ∧ w1.cell? ⟨w.heap.size, 2, none⟩ = some (.slice a2 l2.length cap2) ∧ True := ⟨A.out.1 0 _ rfl, A.out.1 1 _ rfl, A.out.1 2 _ rfl, trivial⟩
  obtain ⟨o_0, o_1, o_2, ozz⟩ : w1.cell? ⟨w.heap.size + 1 + 1, 0, none⟩ = some (.int .i64 n0) ∧ w1.cell? ⟨w.heap.size + 1 + 1, 1, none⟩ = some (.slice none 0 0) ∧ w1.cell? ⟨w.heap.size + 1 + 1, 2, none⟩ = some (.slice none 0 0) ∧ True := ⟨O.out.1 0 _ rfl, O.out.1 1 _ rfl, O.out.1 2 _ rfl, trivial⟩
  obtain ⟨r_0, r_1, r_2, rzz⟩ : w1.cell? ⟨w.heap.size + 1, 0, none⟩ = some (.int .i64 0) ∧ w1.cell? ⟨w.heap.size + 1, 1, none⟩ = some (.slice none 0 0) ∧ w1.cell? ⟨w.heap.size + 1, 2, none⟩ = some (.slice none 0 0) ∧ True := ⟨R.out.1 0 _ rfl, R.out.1 1 _ rfl, R.out.1 2 _ rfl, trivial⟩
  have go := fun i => O.out.2.1 i
  have gr := fun i => R.out.2.1 i
  obtain ⟨ws1, hws1⟩ : ∃ ws, ws = w1.setCell ⟨w.heap.size + 1 + 1, 1, none⟩ (.slice b1 l1.length c1) := ⟨_, rfl⟩
  have As := Lib.hid (show Box w.heap.size [.int .i64 n0, .slice a1 l1.length cap1, .slice a2 l2.length cap2] ws1 by rw [hws1]; exact A.out.other _ (by simp <;> omega) _)
  have Os := Lib.hid (show Box (w.heap.size + 1 + 1) [.int .i64 n0, .slice b1 l1.length c1, .slice none 0 0] ws1 by rw [hws1]; exact O.out.set 1 _)
  have Rs := Lib.hid (show Box (w.heap.size + 1) [.int .i64 0, .slice none 0 0, .slice none 0 0] ws1 by rw [hws1]; exact R.out.other _ (by simp <;> omega) _)
  have Fs := Lib.hid (show Below w.heap.size w ws1 by rw [hws1]; exact F.out.setCell (by simp <;> omega) _)
  have Q1 := Lib.hid (show OwnI (w.heap.size + 3) ws1 (.slice b1 l1.length c1) l1 by rw [hws1]; exact O1.out.setBelow (by simp <;> omega) _)
  have hzs : w.heap.size + 3 ≤ ws1.heap.size := by rw [hws1]; simpa using hz
  have hze : ws1.heap.size = w1.heap.size := by rw [hws1]; simp
  go_wp2_with fail
  rw [← hws1]
  refine (toIntS_any _ l2 _ (H2.out.on Fs.out) k2).mono ?_
  rintro e w2 ⟨u2, rfl, ho, hb⟩
  obtain ⟨B2, hB2⟩ : ∃ B, B = ws1.heap.size := ⟨_, rfl⟩
  rw [← hB2] at ho
  have lt1 : ∀ k, (Value.slice b1 l1.length c1).ownBlock = some k → k < B2 := fun k hk => by rw [hB2]; exact (Q1.out.lt k hk).2
  have le2 : w.heap.size + 3 ≤ B2 := by rw [hB2]; exact hzs
  have A := Lib.hid (As.out.on hb)
  have O := Lib.hid (Os.out.on hb)
  have R := Lib.hid (Rs.out.on hb)
  have F := Lib.hid (Fs.out.trans (hb.mono Fs.out.size))
  have O1 := Lib.hid (Q1.out.keep (below_grown hb) (by simp))
  have O2 := Lib.hid ho
  have hz : w.heap.size + 3 ≤ w2.heap.size := Nat.le_trans hzs hb.size
  have hsz : B2 ≤ w2.heap.size := by rw [hB2]; exact hb.size
  clear ho hb hws1 As Os Rs Fs Q1 go gr a_0 o_0 r_0 a_1 o_1 r_1 a_2 o_2 r_2
  obtain ⟨b2, c2, hu2⟩ : ∃ b c, u2 = .slice b l2.length c := by obtain ⟨b, c, h, -, -⟩ := O2.out.ints.form; exact ⟨b, c, h⟩
  subst hu2
  obtain ⟨a_0, a_1, a_2, azz⟩ : w2.cell? ⟨w.heap.size, 0, none⟩ = some (.int .i64 n0) ∧ w2.cell? ⟨w.heap.size, 1, none⟩ = some (.slice a1 l1.length cap1) ∧ w2.cell? ⟨w.heap.size, 2, none⟩ = some (.slice a2 l2.length cap2) ∧ True := ⟨A.out.1 0 _ rfl, A.out.1 1 _ rfl, A.out.1 2 _ rfl, trivial⟩
  obtain ⟨o_0, o_1, o_2, ozz⟩ : w2.cell? ⟨w.heap.size + 1 + 1, 0, none⟩ = some (.int .i64 n0) ∧ w2.cell? ⟨w.heap.size + 1 + 1, 1, none⟩ = some (.slice b1 l1.length c1) ∧ w2.cell? ⟨w.heap.size + 1 + 1, 2, none⟩ = some (.slice none 0 0) ∧ True := ⟨O.out.1 0 _ rfl, O.out.1 1 _ rfl, O.out.1 2 _ rfl, trivial⟩
  obtain ⟨r_0, r_1, r_2, rzz⟩ : w2.cell? ⟨w.heap.size + 1, 0, none⟩ = some (.int .i64 0) ∧ w2.cell? ⟨w.heap.size + 1, 1, none⟩ = some (.slice none 0 0) ∧ w2.cell? ⟨w.heap.size + 1, 2, none⟩ = some (.slice none 0 0) ∧ True := ⟨R.out.1 0 _ rfl, R.out.1 1 _ rfl, R.out.1 2 _ rfl, trivial⟩
  have go := fun i => O.out.2.1 i
  have gr := fun i => R.out.2.1 i
  go_wp2
  refine bodyPost_ret (v := .agg #[.int .i64 n0, .slice b1 l1.length c1, .slice b2 l2.length c2]) (by simp [results, Try.results35, go_sem, o_0, r_0, o_1, r_1, o_2, r_2, hz] <;> rfl) rfl ?_
  exact ⟨_, _, B2, rfl, ((((O1.out.setBelow (by simp <;> omega) _).setBelow (by simp <;> omega) _).setBelow (by simp <;> omega) _).setBelow (by simp <;> omega) _).mono (by omega), ((((O2.out.setBelow (by simp <;> omega) _).setBelow (by simp <;> omega) _).setBelow (by simp <;> omega) _).setBelow (by simp <;> omega) _), by omega, lt1, ((((F.out.setCell (by simp <;> omega) _).setCell (by simp <;> omega) _).setCell (by simp <;> omega) _).setCell (by simp <;> omega) _)⟩

set_option maxHeartbeats 1000000 in
theorem eqArcs_same (n0 : Int) (v1 : Value) (v2 : Value) (u1 : Value) (u2 : Value) (l1 : List Int) (l2 : List Int) (w : World) (h1 : Ints w v1 l1) (h2 : Ints w v2 l2) (g1 : Ints w u1 l1) (g2 : Ints w u2 l2) (k1 : l1.length ≤ 100000000) (k2 : l2.length ≤ 100000000) :
    Calls Try.prog 38 #[.agg #[.int .i64 n0, v1, v2], .agg #[.int .i64 n0, u1, u2]] w fun e w' => e = .returned (.bool true) ∧ Below w.heap.size w w' := by
  obtain ⟨a1, cap1, rfl, -, -⟩ := h1.form
  have H1 := Lib.hid h1
  clear h1
  obtain ⟨a2, cap2, rfl, -, -⟩ := h2.form
  have H2 := Lib.hid h2
  clear h2
  obtain ⟨d1, e1, rfl, -, -⟩ := g1.form
  have G1 := Lib.hid g1
  clear g1
  obtain ⟨d2, e2, rfl, -, -⟩ := g2.form
  have G2 := Lib.hid g2
  clear g2
  have hne0 : (n0 != n0) = false := by simp
  go_enter Try.func38, Try.ntmps38
  go_wp2_with fail
  refine (eqIntS_same _ _ l1 _ ((H1.out.alloc _).alloc _) ((G1.out.alloc _).alloc _) k1).mono ?_
  rintro e w1 ⟨rfl, hb⟩
  have A := Lib.hid (show Box w.heap.size [.int .i64 n0, .slice a1 l1.length cap1, .slice a2 l2.length cap2] w1 from ((Box.new w _ _).keep (grown_alloc _ _ none) (by simp)).on hb)
  have O := Lib.hid (show Box (w.heap.size + 1) [.int .i64 n0, .slice d1 l1.length e1, .slice d2 l2.length e2] w1 by have h := (Box.new (w.alloc _) _ _).on hb; simpa using h)
  have F := Lib.hid (show Below w.heap.size w w1 from (((Below.refl _ w).alloc (Nat.le_refl _) _).alloc (by simp) _).trans (hb.mono (by simp <;> omega)))
  clear hb
  have a_0 := A.out.1 0 _ rfl
  have o_0 := O.out.1 0 _ rfl
  have a_1 := A.out.1 1 _ rfl
  have o_1 := O.out.1 1 _ rfl
  have a_2 := A.out.1 2 _ rfl
  have o_2 := O.out.1 2 _ rfl
  go_wp2_with fail
  refine (eqIntS_same _ _ l2 _ (H2.out.on F.out) (G2.out.on F.out) k2).mono ?_
  rintro e w2 ⟨rfl, hb⟩
  have A := Lib.hid (A.out.on hb)
  have O := Lib.hid (O.out.on hb)
  have F := Lib.hid (F.out.trans (hb.mono F.out.size))
  clear hb a_0 o_0 a_1 o_1 a_2 o_2
  go_wp2
  go_ret
  exact ⟨rfl, F.out⟩

set_option maxHeartbeats 1000000 in
theorem markArcs_any (lo hi : Nat) (n0 : Int) (v1 : Value) (v2 : Value) (l1 : List Int) (l2 : List Int) (k : Int) (w : World) (h1 : OwnR lo hi w v1 l1) (h2 : OwnR lo hi w v2 l2) (d12 : ∀ k, Value.ownBlock v1 = some k → Value.ownBlock v2 ≠ some k) (g1 : l1.length ≤ 100000000) (g2 : l2.length ≤ 100000000) (k0 : 0 ≤ k) (k1 : ((k + l1.length) + l2.length) ≤ 100000000) (hlh : hi ≤ w.heap.size) :
    Calls Try.prog 39 #[.agg #[.int .i64 n0, v1, v2], .int .i64 k] w fun e w' => e = .returned (.int .i64 ((k + l1.length) + l2.length)) ∧ Only lo hi w w' ∧ OwnR lo hi w' v1 (marks k l1.length) ∧ OwnR lo hi w' v2 (marks (k + l1.length) l2.length) := by
  obtain ⟨a1, cap1, hv1, -, -⟩ := h1.1.ints.form
  subst hv1
  obtain ⟨a2, cap2, hv2, -, -⟩ := h2.1.ints.form
  subst hv2
  have O0 := Only.of_below lo hi ((Below.refl w.heap.size w).alloc (Nat.le_refl _) (.cells #[.int .i64 n0, .slice a1 l1.length cap1, .slice a2 l2.length cap2] 55))
  have A0 := Lib.hid (Box.new w 55 [.int .i64 n0, .slice a1 l1.length cap1, .slice a2 l2.length cap2])
  have H1 := Lib.hid (h1.on ((Below.refl w.heap.size w).alloc (Nat.le_refl _) (.cells #[.int .i64 n0, .slice a1 l1.length cap1, .slice a2 l2.length cap2] 55)))
  have B1 := h1.2
  clear h1
  have H2 := Lib.hid (h2.on ((Below.refl w.heap.size w).alloc (Nat.le_refl _) (.cells #[.int .i64 n0, .slice a1 l1.length cap1, .slice a2 l2.length cap2] 55)))
  have B2 := h2.2
  clear h2
  have F0 := Lib.hid O0
  clear O0
  go_enter Try.func39, Try.ntmps39
  go_wp2_with fail
  refine (markIntS_any lo _ l1 k _ H1.out.1 g1 (by omega) (by omega)).mono ?_
  rintro e w1 ⟨rfl, ho, hg⟩
  have hO := Only.of_grown hg (fun k hk => ⟨(H1.out.1.lt k hk).1, H1.out.2 k hk⟩)
  have A1 := Lib.hid (A0.out.keepO hO (by omega))
  have H2 := Lib.hid (show OwnR lo hi w1 _ l2 from ⟨H2.out.1.keep hg (fun k hk j hj e => d12 k hk (e ▸ hj)), H2.out.2⟩)
  have F1 := Lib.hid (F0.out.trans hO)
  have H1 := Lib.hid (show OwnR lo hi w1 _ (marks k l1.length) from ⟨ho, B1⟩)
  clear ho hg hO
  have a_0 := A1.out.1 0 _ rfl
  have a_1 := A1.out.1 1 _ rfl
  have a_2 := A1.out.1 2 _ rfl
  go_wp2_with fail
  refine (markIntS_any lo _ l2 (k + l1.length) _ H2.out.1 g2 (by omega) (by omega)).mono ?_
  rintro e w2 ⟨rfl, ho, hg⟩
  have hO := Only.of_grown hg (fun k hk => ⟨(H2.out.1.lt k hk).1, H2.out.2 k hk⟩)
  have A2 := Lib.hid (A1.out.keepO hO (by omega))
  have H1 := Lib.hid (show OwnR lo hi w2 _ (marks k l1.length) from ⟨H1.out.1.keep hg (fun k hk j hj e => d12 j hj (e ▸ hk)), H1.out.2⟩)
  have F2 := Lib.hid (F1.out.trans hO)
  have H2 := Lib.hid (show OwnR lo hi w2 _ (marks (k + l1.length) l2.length) from ⟨ho, B2⟩)
  clear ho hg hO a_0 a_1 a_2
  go_wp2
  go_ret
  exact ⟨rfl, F2.out, H1.out, H2.out⟩

theorem szIntervals_fits (v0 : Value) (v1 : Value) (l0 : List Int) (l1 : List Int) (n : Int) (w : World) (h0 : Ints w v0 l0) (h1 : Ints w v1 l1) (hn : (l0.length : Int) + (l1.length : Int) ≤ n) (hn1 : n ≤ 1048576) :
    Calls Try.prog 56 #[.agg #[v0, v1], .int .i64 n] w fun e w' => e = .returned (.int .i64 (n - l0.length - l1.length)) ∧ Below w.heap.size w w' := by
  have hp0 : (0 : Int) ≤ n - l0.length := by omega
  have hq0 : n - l0.length ≤ 1048576 := by omega
  have hp1 : (0 : Int) ≤ n - l0.length - l1.length := by omega
  have hq1 : n - l0.length - l1.length ≤ 1048576 := by omega
  obtain ⟨a0, cap0, rfl, -, -⟩ := h0.form
  have H0 := Lib.hid h0
  clear h0
  obtain ⟨a1, cap1, rfl, -, -⟩ := h1.form
  have H1 := Lib.hid h1
  clear h1
  go_enter Try.func56, Try.ntmps56
  go_wp2_with fail
  refine (szIntS_fits _ l0 _ _ (H0.out.alloc _) (by omega) (by omega)).mono ?_
  rintro e w1 ⟨rfl, rfl⟩
  go_wp2_with fail
  refine (szIntS_fits _ l1 _ _ (H1.out.alloc _) (by omega) (by omega)).mono ?_
  rintro e w1 ⟨rfl, rfl⟩
  go_wp2
  go_ret
  exact ⟨rfl, (Below.refl _ w).alloc (Nat.le_refl _) _⟩

theorem szIntervals_over (v0 : Value) (v1 : Value) (l0 : List Int) (l1 : List Int) (n : Int) (w : World) (h0 : Ints w v0 l0) (h1 : Ints w v1 l1) (hn : n < (l0.length : Int) + (l1.length : Int)) (hn0 : 0 ≤ n) (hn1 : n ≤ 1048576) :
    Calls Try.prog 56 #[.agg #[v0, v1], .int .i64 n] w fun e w' => e = .returned (.int .i64 (-1)) ∧ Below w.heap.size w w' := by
  obtain ⟨a0, cap0, rfl, -, -⟩ := h0.form
  have H0 := Lib.hid h0
  clear h0
  obtain ⟨a1, cap1, rfl, -, -⟩ := h1.form
  have H1 := Lib.hid h1
  clear h1
  by_cases c0 : n < (l0.length : Int)
  · skip
    go_enter Try.func56, Try.ntmps56
    go_wp2_with fail
    refine (szIntS_over _ l0 _ _ (H0.out.alloc _) (by omega) (by omega)).mono ?_
    rintro e w1 ⟨rfl, rfl⟩
    go_wp2
    go_ret
    exact ⟨rfl, (Below.refl _ w).alloc (Nat.le_refl _) _⟩
  have hp0 : (0 : Int) ≤ n - l0.length := by omega
  go_enter Try.func56, Try.ntmps56
  go_wp2_with fail
  refine (szIntS_fits _ l0 _ _ (H0.out.alloc _) (by omega) (by omega)).mono ?_
  rintro e w1 ⟨rfl, rfl⟩
  go_wp2_with fail
  refine (szIntS_over _ l1 _ _ (H1.out.alloc _) (by omega) (by omega)).mono ?_
  rintro e w1 ⟨rfl, rfl⟩
  go_wp2
  go_ret
  exact ⟨rfl, (Below.refl _ w).alloc (Nat.le_refl _) _⟩

def GetsIntervals (w : World) (l0 : List Int) (l1 : List Int) (e : Ending) (w' : World) : Prop := ∃ u0 u1 B1, e = .returned (.agg #[u0, u1]) ∧ OwnI w.heap.size w' u0 l0 ∧ OwnI B1 w' u1 l1 ∧ w.heap.size ≤ B1 ∧ (∀ k, u0.ownBlock = some k → k < B1) ∧ Below w.heap.size w w'

set_option maxHeartbeats 1000000 in
set_option maxRecDepth 100000 in
theorem toIntervals_any (v0 : Value) (v1 : Value) (l0 : List Int) (l1 : List Int) (w : World) (h0 : Ints w v0 l0) (h1 : Ints w v1 l1) (k0 : l0.length ≤ 1048576) (k1 : l1.length ≤ 1048576) :
    Calls Try.prog 58 #[.agg #[v0, v1]] w (GetsIntervals w l0 l1) := by
  obtain ⟨a0, cap0, rfl, -, -⟩ := h0.form
  have H0 := Lib.hid h0
  clear h0
  obtain ⟨a1, cap1, rfl, -, -⟩ := h1.form
  have H1 := Lib.hid h1
  clear h1
  go_enter Try.func58, Try.ntmps58
  go_wp2_with fail
  refine (toIntS_any _ l0 _ ?hi0 k0).mono ?_
  case hi0 => exact ((H0.out.alloc _).alloc _).alloc _
  rintro e w1 ⟨u0, rfl, ho0, hb⟩
  have hz : w.heap.size + 3 ≤ w1.heap.size := by have := hb.size; simpa using this
  have A := Lib.hid (show Box (w.heap.size) [.slice a0 l0.length cap0, .slice a1 l1.length cap1] w1 from (((Box.new w _ _).keep (grown_alloc _ _ none) (by simp)).keep (grown_alloc _ _ none) (by simp)).on hb)
  have O := Lib.hid (show Box (w.heap.size + 1 + 1) [.slice none 0 0, .slice none 0 0] w1 by have h := (Box.new ((w.alloc _).alloc _) _ _).on hb; simpa using h)
  have R := Lib.hid (show Box (w.heap.size + 1) [.slice none 0 0, .slice none 0 0] w1 by have h := ((Box.new (w.alloc _) _ _).keep (grown_alloc _ _ none) (by simp)).on hb; simpa using h)
  have F := Lib.hid (show Below w.heap.size w w1 from ((((Below.refl _ w).alloc (Nat.le_refl _) _).alloc (by simp) _).alloc (by simp <;> omega) _).trans (hb.mono (by simp <;> omega)))
  have O0 := Lib.hid (show OwnI (w.heap.size + 3) w1 u0 l0 from ho0.mono (by simp))
  clear ho0 hb
  obtain ⟨b0, c0, hu0⟩ : ∃ b c, u0 = .slice b l0.length c := by obtain ⟨b, c, h, -, -⟩ := O0.out.ints.form; exact ⟨b, c, h⟩
  subst hu0
  obtain ⟨a_0, a_1, azz⟩ : w1.cell? ⟨w.heap.size, 0, none⟩ = some (.slice a0 l0.length cap0) ∧ w1.cell? ⟨w.heap.size, 1, none⟩ = some (.slice a1 l1.length cap1) ∧ True := ⟨A.out.1 0 _ rfl, A.out.1 1 _ rfl, trivial⟩
  obtain ⟨o_0, o_1, ozz⟩ : w1.cell? ⟨w.heap.size + 1 + 1, 0, none⟩ = some (.slice none 0 0) ∧ w1.cell? ⟨w.heap.size + 1 + 1, 1, none⟩ = some (.slice none 0 0) ∧ True := ⟨O.out.1 0 _ rfl, O.out.1 1 _ rfl, trivial⟩
  obtain ⟨r_0, r_1, rzz⟩ : w1.cell? ⟨w.heap.size + 1, 0, none⟩ = some (.slice none 0 0) ∧ w1.cell? ⟨w.heap.size + 1, 1, none⟩ = some (.slice none 0 0) ∧ True := ⟨R.out.1 0 _ rfl, R.out.1 1 _ rfl, trivial⟩
  have go := fun i => O.out.2.1 i
  have gr := fun i => R.out.2.1 i
  obtain ⟨ws0, hws0⟩ : ∃ ws, ws = w1.setCell ⟨w.heap.size + 1 + 1, 0, none⟩ (.slice b0 l0.length c0) := ⟨_, rfl⟩
  have As := Lib.hid (show Box w.heap.size [.slice a0 l0.length cap0, .slice a1 l1.length cap1] ws0 by rw [hws0]; exact A.out.other _ (by simp <;> omega) _)
  have Os := Lib.hid (show Box (w.heap.size + 1 + 1) [.slice b0 l0.length c0, .slice none 0 0] ws0 by rw [hws0]; exact O.out.set 0 _)
  have Rs := Lib.hid (show Box (w.heap.size + 1) [.slice none 0 0, .slice none 0 0] ws0 by rw [hws0]; exact R.out.other _ (by simp <;> omega) _)
  have Fs := Lib.hid (show Below w.heap.size w ws0 by rw [hws0]; exact F.out.setCell (by simp <;> omega) _)
  have Q0 := Lib.hid (show OwnI (w.heap.size + 3) ws0 (.slice b0 l0.length c0) l0 by rw [hws0]; exact O0.out.setBelow (by simp <;> omega) _)
  have hzs : w.heap.size + 3 ≤ ws0.heap.size := by rw [hws0]; simpa using hz
  have hze : ws0.heap.size = w1.heap.size := by rw [hws0]; simp
  go_wp2_with fail
  rw [← hws0]
  refine (toIntS_any _ l1 _ (H1.out.on Fs.out) k1).mono ?_
  rintro e w2 ⟨u1, rfl, ho, hb⟩
  obtain ⟨B1, hB1⟩ : ∃ B, B = ws0.heap.size := ⟨_, rfl⟩
  rw [← hB1] at ho
  have lt0 : ∀ k, (Value.slice b0 l0.length c0).ownBlock = some k → k < B1 := fun k hk => by rw [hB1]; exact (Q0.out.lt k hk).2
  have le1 : w.heap.size + 3 ≤ B1 := by rw [hB1]; exact hzs
  have A := Lib.hid (As.out.on hb)
  have O := Lib.hid (Os.out.on hb)
  have R := Lib.hid (Rs.out.on hb)
  have F := Lib.hid (Fs.out.trans (hb.mono Fs.out.size))
  have O0 := Lib.hid (Q0.out.keep (below_grown hb) (by simp))
  have O1 := Lib.hid ho
  have hz : w.heap.size + 3 ≤ w2.heap.size := Nat.le_trans hzs hb.size
  have hsz : B1 ≤ w2.heap.size := by rw [hB1]; exact hb.size
  clear ho hb hws0 As Os Rs Fs Q0 go gr a_0 o_0 r_0 a_1 o_1 r_1
  obtain ⟨b1, c1, hu1⟩ : ∃ b c, u1 = .slice b l1.length c := by obtain ⟨b, c, h, -, -⟩ := O1.out.ints.form; exact ⟨b, c, h⟩
  subst hu1
  obtain ⟨a_0, a_1, azz⟩ : w2.cell? ⟨w.heap.size, 0, none⟩ = some (.slice a0 l0.length cap0) ∧ w2.cell? ⟨w.heap.size, 1, none⟩ = some (.slice a1 l1.length cap1) ∧ True := ⟨A.out.1 0 _ rfl, A.out.1 1 _ rfl, trivial⟩
  obtain ⟨o_0, o_1, ozz⟩ : w2.cell? ⟨w.heap.size + 1 + 1, 0, none⟩ = some (.slice b0 l0.length c0) ∧ w2.cell? ⟨w.heap.size + 1 + 1, 1, none⟩ = some (.slice none 0 0) ∧ True := ⟨O.out.1 0 _ rfl, O.out.1 1 _ rfl, trivial⟩
  obtain ⟨r_0, r_1, rzz⟩ : w2.cell? ⟨w.heap.size + 1, 0, none⟩ = some (.slice none 0 0) ∧ w2.cell? ⟨w.heap.size + 1, 1, none⟩ = some (.slice none 0 0) ∧ True := ⟨R.out.1 0 _ rfl, R.out.1 1 _ rfl, trivial⟩
  have go := fun i => O.out.2.1 i
  have gr := fun i => R.out.2.1 i
  go_wp2
  refine bodyPost_ret (v := .agg #[.slice b0 l0.length c0, .slice b1 l1.length c1]) (by simp [results, Try.results58, go_sem, o_0, r_0, o_1, r_1, hz] <;> rfl) rfl ?_
  exact ⟨_, _, B1, rfl, (((O0.out.setBelow (by simp <;> omega) _).setBelow (by simp <;> omega) _).setBelow (by simp <;> omega) _).mono (by omega), (((O1.out.setBelow (by simp <;> omega) _).setBelow (by simp <;> omega) _).setBelow (by simp <;> omega) _), by omega, lt0, (((F.out.setCell (by simp <;> omega) _).setCell (by simp <;> omega) _).setCell (by simp <;> omega) _)⟩

set_option maxHeartbeats 1000000 in
theorem eqIntervals_same (v0 : Value) (v1 : Value) (u0 : Value) (u1 : Value) (l0 : List Int) (l1 : List Int) (w : World) (h0 : Ints w v0 l0) (h1 : Ints w v1 l1) (g0 : Ints w u0 l0) (g1 : Ints w u1 l1) (k0 : l0.length ≤ 100000000) (k1 : l1.length ≤ 100000000) :
    Calls Try.prog 37 #[.agg #[v0, v1], .agg #[u0, u1]] w fun e w' => e = .returned (.bool true) ∧ Below w.heap.size w w' := by
  obtain ⟨a0, cap0, rfl, -, -⟩ := h0.form
  have H0 := Lib.hid h0
  clear h0
  obtain ⟨a1, cap1, rfl, -, -⟩ := h1.form
  have H1 := Lib.hid h1
  clear h1
  obtain ⟨d0, e0, rfl, -, -⟩ := g0.form
  have G0 := Lib.hid g0
  clear g0
  obtain ⟨d1, e1, rfl, -, -⟩ := g1.form
  have G1 := Lib.hid g1
  clear g1
  go_enter Try.func37, Try.ntmps37
  go_wp2_with fail
  refine (eqIntS_same _ _ l0 _ ((H0.out.alloc _).alloc _) ((G0.out.alloc _).alloc _) k0).mono ?_
  rintro e w1 ⟨rfl, hb⟩
  have A := Lib.hid (show Box w.heap.size [.slice a0 l0.length cap0, .slice a1 l1.length cap1] w1 from ((Box.new w _ _).keep (grown_alloc _ _ none) (by simp)).on hb)
  have O := Lib.hid (show Box (w.heap.size + 1) [.slice d0 l0.length e0, .slice d1 l1.length e1] w1 by have h := (Box.new (w.alloc _) _ _).on hb; simpa using h)
  have F := Lib.hid (show Below w.heap.size w w1 from (((Below.refl _ w).alloc (Nat.le_refl _) _).alloc (by simp) _).trans (hb.mono (by simp <;> omega)))
  clear hb
  have a_0 := A.out.1 0 _ rfl
  have o_0 := O.out.1 0 _ rfl
  have a_1 := A.out.1 1 _ rfl
  have o_1 := O.out.1 1 _ rfl
  go_wp2_with fail
  refine (eqIntS_same _ _ l1 _ (H1.out.on F.out) (G1.out.on F.out) k1).mono ?_
  rintro e w2 ⟨rfl, hb⟩
  have A := Lib.hid (A.out.on hb)
  have O := Lib.hid (O.out.on hb)
  have F := Lib.hid (F.out.trans (hb.mono F.out.size))
  clear hb a_0 o_0 a_1 o_1
  go_wp2
  go_ret
  exact ⟨rfl, F.out⟩

set_option maxHeartbeats 1000000 in
theorem markIntervals_any (lo hi : Nat) (v0 : Value) (v1 : Value) (l0 : List Int) (l1 : List Int) (k : Int) (w : World) (h0 : OwnR lo hi w v0 l0) (h1 : OwnR lo hi w v1 l1) (d01 : ∀ k, Value.ownBlock v0 = some k → Value.ownBlock v1 ≠ some k) (g0 : l0.length ≤ 100000000) (g1 : l1.length ≤ 100000000) (k0 : 0 ≤ k) (k1 : ((k + l0.length) + l1.length) ≤ 100000000) (hlh : hi ≤ w.heap.size) :
    Calls Try.prog 40 #[.agg #[v0, v1], .int .i64 k] w fun e w' => e = .returned (.int .i64 ((k + l0.length) + l1.length)) ∧ Only lo hi w w' ∧ OwnR lo hi w' v0 (marks k l0.length) ∧ OwnR lo hi w' v1 (marks (k + l0.length) l1.length) := by
  obtain ⟨a0, cap0, hv0, -, -⟩ := h0.1.ints.form
  subst hv0
  obtain ⟨a1, cap1, hv1, -, -⟩ := h1.1.ints.form
  subst hv1
  have O0 := Only.of_below lo hi ((Below.refl w.heap.size w).alloc (Nat.le_refl _) (.cells #[.slice a0 l0.length cap0, .slice a1 l1.length cap1] 52))
  have A0 := Lib.hid (Box.new w 52 [.slice a0 l0.length cap0, .slice a1 l1.length cap1])
  have H0 := Lib.hid (h0.on ((Below.refl w.heap.size w).alloc (Nat.le_refl _) (.cells #[.slice a0 l0.length cap0, .slice a1 l1.length cap1] 52)))
  have B0 := h0.2
  clear h0
  have H1 := Lib.hid (h1.on ((Below.refl w.heap.size w).alloc (Nat.le_refl _) (.cells #[.slice a0 l0.length cap0, .slice a1 l1.length cap1] 52)))
  have B1 := h1.2
  clear h1
  have F0 := Lib.hid O0
  clear O0
  go_enter Try.func40, Try.ntmps40
  go_wp2_with fail
  refine (markIntS_any lo _ l0 k _ H0.out.1 g0 (by omega) (by omega)).mono ?_
  rintro e w1 ⟨rfl, ho, hg⟩
  have hO := Only.of_grown hg (fun k hk => ⟨(H0.out.1.lt k hk).1, H0.out.2 k hk⟩)
  have A1 := Lib.hid (A0.out.keepO hO (by omega))
  have H1 := Lib.hid (show OwnR lo hi w1 _ l1 from ⟨H1.out.1.keep hg (fun k hk j hj e => d01 k hk (e ▸ hj)), H1.out.2⟩)
  have F1 := Lib.hid (F0.out.trans hO)
  have H0 := Lib.hid (show OwnR lo hi w1 _ (marks k l0.length) from ⟨ho, B0⟩)
  clear ho hg hO
  have a_0 := A1.out.1 0 _ rfl
  have a_1 := A1.out.1 1 _ rfl
  go_wp2_with fail
  refine (markIntS_any lo _ l1 (k + l0.length) _ H1.out.1 g1 (by omega) (by omega)).mono ?_
  rintro e w2 ⟨rfl, ho, hg⟩
  have hO := Only.of_grown hg (fun k hk => ⟨(H1.out.1.lt k hk).1, H1.out.2 k hk⟩)
  have A2 := Lib.hid (A1.out.keepO hO (by omega))
  have H0 := Lib.hid (show OwnR lo hi w2 _ (marks k l0.length) from ⟨H0.out.1.keep hg (fun k hk j hj e => d01 j hj (e ▸ hk)), H0.out.2⟩)
  have F2 := Lib.hid (F1.out.trans hO)
  have H1 := Lib.hid (show OwnR lo hi w2 _ (marks (k + l0.length) l1.length) from ⟨ho, B1⟩)
  clear ho hg hO a_0 a_1
  go_wp2
  go_ret
  exact ⟨rfl, F2.out, H0.out, H1.out⟩

set_option maxHeartbeats 1000000 in
theorem heldIntervals_any (v0 : Value) (v1 : Value) (m0 : Nat) (m1 : Nat) (k : Int) (w : World) (h0 : Ints w v0 (marks k m0)) (h1 : Ints w v1 (marks (k + m0) m1)) (g0 : m0 ≤ 100000000) (g1 : m1 ≤ 100000000) (k0 : 0 ≤ k) (k1 : ((k + m0) + m1) ≤ 100000000) :
    Calls Try.prog 41 #[.agg #[v0, v1], .int .i64 k] w fun e w' => e = .returned (.int .i64 ((k + m0) + m1)) ∧ Below w.heap.size w w' := by
  have hn0 : decide (k + m0 < 0) = false := by simp; omega
  have hn1 : decide ((k + m0) + m1 < 0) = false := by simp; omega
  obtain ⟨a0, cap0, rfl, -, -⟩ := h0.form
  have H0 := Lib.hid h0
  clear h0
  obtain ⟨a1, cap1, rfl, -, -⟩ := h1.form
  have H1 := Lib.hid h1
  clear h1
  go_enter Try.func41, Try.ntmps41
  go_wp2_with fail
  refine (heldIntS_any _ k m0 _ (H0.out.alloc _) g0 (by omega) (by omega)).mono ?_
  rintro e w1 ⟨rfl, rfl⟩
  go_wp2_with fail
  refine (heldIntS_any _ (k + m0) m1 _ (H1.out.alloc _) g1 (by omega) (by omega)).mono ?_
  rintro e w1 ⟨rfl, rfl⟩
  go_wp2
  go_ret
  exact ⟨rfl, (Below.refl _ w).alloc (Nat.le_refl _) _⟩

def GetsOrientation (w : World) (l0 : List Int) (e : Ending) (w' : World) : Prop := ∃ u0, e = .returned (.agg #[u0]) ∧ OwnI w.heap.size w' u0 l0 ∧ Below w.heap.size w w'

end Go.Proofs.Ytpifgmmmmhenmaa
