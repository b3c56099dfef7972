/- Walks over IsConnected. -/
import Derived.Test.YtbgkceekkinngacV8
import Derived.Test.YtbgkceekkinngacQ
namespace Go.Proofs.Ytbgkceekkinngac
set_option linter.unusedVariables false
set_option linter.unusedSimpArgs false
open Go.RowKit

def ConP (n : Int) (l : List Int) : Prop := IsG n l ∧ (partsR n l (2 ^ n.toNat - 1)).length = 1

instance (n : Int) (l : List Int) : Decidable (ConP n l) := by unfold ConP; infer_instance

set_option maxHeartbeats 2000000 in
set_option maxRecDepth 100000 in
theorem specConn (n : Int) (v : Value) (l : List Int) (w : World) (h : Ints w v l) :
    Calls Try.prog 56 #[.agg #[.int .i64 n, v]] w (SaysB (ConP n l) w) := by
  obtain ⟨a, cap, rfl, -, -⟩ := h.form
  have HA := argG' (T := 27) (n := n) h
  have HI := Lib.hid (h.alloc (.cells #[.int .i64 n, .slice a l.length cap] 27))
  obtain ⟨w0, hw0⟩ : ∃ w0, w0 = w.alloc (.cells #[.int .i64 n, .slice a l.length cap] 27) := ⟨_, rfl⟩
  rw [← hw0] at HI
  have HST : Hid (∀ W, Below w0.heap.size w0 W → W.cell? ⟨w.heap.size, 0, none⟩ = some (.int .i64 n) ∧ W.cell? ⟨w.heap.size, 1, none⟩ = some (.slice a l.length cap) ∧ Ints W (.slice a l.length cap) l ∧ Below w.heap.size w W ∧ Below w0.heap.size w0 W) := fun W hW => by
    obtain ⟨c0, c1, cI, cB, -⟩ := HA.out W (by rw [← hw0]; exact hW.mono (by rw [hw0]; simp))
    exact ⟨c0, c1, cI, cB, hW⟩
  clear h
  by_cases hg : IsG n l
  · have hn1 := hg.1
    have hn7 := hg.2.1
    obtain ⟨-, -, -, s4, s5⟩ := shl_one n (by omega) hn7
    obtain ⟨N, eN, hN1, hN2⟩ : ∃ N, (2 : Int) ^ n.toNat = N ∧ 1 ≤ N ∧ N ≤ 128 := ⟨_, rfl, by omega, s4⟩
    have g1 : IntKind.i64.wrap (1 * N) = N := IntWalk.i64_in _ (by omega) |>.trans (by omega)
    have g2 : IntKind.i64.wrap N = N := IntWalk.i64_in _ (by omega)
    have g3 : IntKind.i64.wrap (N - 1) = N - 1 := IntWalk.i64_in _ (by omega)
    have hn0 : decide (n < 0) = false := decide_eq_false (by omega)
    obtain ⟨L, hL⟩ : ∃ L, L = (partsR n l (N - 1)).length := ⟨_, rfl⟩
    have HP := Lib.hid (show ConP n l ↔ L = 1 from ⟨fun h => by rw [hL, ← eN]; exact h.2, fun h => ⟨hg, by rw [eN, ← hL]; exact h⟩⟩)
    have HC1 : Hid (∀ W, Ints W (.slice a l.length cap) l → Calls Try.prog 81 #[.agg #[.int .i64 n, .slice a l.length cap]] W fun e w' => e = .returned (.bool true) ∧ Below W.heap.size W w') := fun W hI =>
      (specIsG_any n _ l W hI).mono fun e w' ⟨r, he, hr, hb⟩ => ⟨by rw [he, hr.2 hg], hb⟩
    have HC2 : Hid (∀ W, Ints W (.slice a l.length cap) l → Calls Try.prog 98 #[.agg #[.int .i64 n, .slice a l.length cap], .int .i64 (N - 1)] W fun e w' => ∃ ap capp, e = .returned (.slice ap L capp) ∧ Below W.heap.size W w') := fun W hI =>
      (specParts n _ l (N - 1) W hI).mono fun e w' ⟨vp, he, ho, hb⟩ => by
        obtain ⟨ap, capp, hv, -, -⟩ := ho.ints.form
        exact ⟨ap, capp, by rw [he, hv, hL], hb⟩
    clear hg s4 s5 hL
    go_enter Try.func56, Try.ntmps56
    go_wp2
    rw [← hw0]
    clear hw0
    go_region_held3 (fun W => W.cell? ⟨w.heap.size, 0, none⟩ = some (.int .i64 n) ∧ W.cell? ⟨w.heap.size, 1, none⟩ = some (.slice a l.length cap) ∧ Ints W (.slice a l.length cap) l ∧ Below w.heap.size w W ∧ Below w0.heap.size w0 W)
      (first | exact HST.out _ (Below.refl _ _).drew | exact HST.out _ (Below.refl _ _) | (go_split_ands; exact HST.out _ (btrans (by assumption) hb)))
      (first
        | (go_at_call 81; go_split_ands; refine (HC1.out _ (by assumption)).mono ?_; rintro e wz ⟨rfl, hb⟩)
        | (go_at_call 98; go_split_ands; refine (HC2.out _ (by assumption)).mono ?_; rintro e wz ⟨ap, capp, rfl, hb⟩))
    go_split_ands
    have HW := Lib.hid (show Below w.heap.size w wz by assumption)
    go_wp2
    go_ret
    exact ⟨((L : Int) == 1), rfl, by rw [HP.out]; simp; omega, HW.out⟩
  · have HN := Lib.hid (show ¬ ConP n l from fun h => hg h.1)
    have HC1 : Hid (∀ W, Ints W (.slice a l.length cap) l → Calls Try.prog 81 #[.agg #[.int .i64 n, .slice a l.length cap]] W fun e w' => e = .returned (.bool false) ∧ Below W.heap.size W w') := fun W hI =>
      (specIsG_any n _ l W hI).mono fun e w' ⟨r, he, hr, hb⟩ => ⟨by rw [he]; cases r <;> simp_all, hb⟩
    clear hg
    go_enter Try.func56, Try.ntmps56
    go_wp2
    rw [← hw0]
    clear hw0
    have hc0 : ∀ X : Since w0, X.val.cell? ⟨w.heap.size, 0, none⟩ = some (.int .i64 n) := fun X => (HST.out _ X.prop).1
    have hc1 : ∀ X : Since w0, X.val.cell? ⟨w.heap.size, 1, none⟩ = some (.slice a l.length cap) := fun X => (HST.out _ X.prop).2.1
    have HDI : Hid (∀ X : Since w0, Ints X.val (.slice a l.length cap) l) := fun X => (HST.out _ X.prop).2.2.1
    refine wp_region_since (by kernel_rfl) (by kernel_rfl) ?_
    repeat (go_big_quiet_step (exact since_call (HC1.out _ (HDI.out _))))
    refine wpQuiet_nil ?_
    intro X
    have HW := Lib.hid (HST.out _ X.prop).2.2.2.1
    clear hc0 hc1
    go_wp2
    go_ret
    exact SaysB.no HN.out HW.out

set_option maxHeartbeats 2000000 in
set_option maxRecDepth 100000 in
theorem implConn (n : Int) (v : Value) (l : List Int) (w : World) (h : Ints w v l) :
    Calls Try.prog 60 #[.agg #[.int .i64 n, v]] w (SaysB (ConP n l) w) := by
  obtain ⟨a, cap, rfl, -, -⟩ := h.form
  have HA := argG' (T := 27) (n := n) h
  obtain ⟨w0, hw0⟩ : ∃ w0, w0 = w.alloc (.cells #[.int .i64 n, .slice a l.length cap] 27) := ⟨_, rfl⟩
  have HST : Hid (∀ W, Below w0.heap.size w0 W → W.cell? ⟨w.heap.size, 0, none⟩ = some (.int .i64 n) ∧ W.cell? ⟨w.heap.size, 1, none⟩ = some (.slice a l.length cap) ∧ Ints W (.slice a l.length cap) l ∧ Below w.heap.size w W ∧ Below w0.heap.size w0 W) := fun W hW => by
    obtain ⟨c0, c1, cI, cB, -⟩ := HA.out W (by rw [← hw0]; exact hW.mono (by rw [hw0]; simp))
    exact ⟨c0, c1, cI, cB, hW⟩
  clear h
  by_cases hg : IsG n l
  · obtain ⟨M, eM⟩ : ∃ M : Int, M = 2 ^ n.toNat - 1 := ⟨_, rfl⟩
    obtain ⟨L, hL⟩ : ∃ L, L = (partsR n l M).length := ⟨_, rfl⟩
    have HP := Lib.hid (show ConP n l ↔ L = 1 from ⟨fun h => by rw [hL, eM]; exact h.2, fun h => ⟨hg, by rw [← eM, ← hL]; exact h⟩⟩)
    have HC1 : Hid (∀ W, Ints W (.slice a l.length cap) l → Calls Try.prog 83 #[.agg #[.int .i64 n, .slice a l.length cap]] W fun e w' => e = .returned (.bool true) ∧ Below W.heap.size W w') := fun W hI =>
      (implIsG_any n _ l W hI).mono fun e w' ⟨r, he, hr, hb⟩ => ⟨by rw [he, hr.2 hg], hb⟩
    have HC3 : Hid (∀ W, Ints W (.slice a l.length cap) l → Calls Try.prog 105 #[.agg #[.int .i64 n, .slice a l.length cap]] W fun e w' => e = .returned (.int .i64 M) ∧ Below W.heap.size W w') := fun W hI => by
      rw [eM]
      exact allVertices_is n _ l W hI hg.1 hg.2.1
    have HC2 : Hid (∀ W, Ints W (.slice a l.length cap) l → Calls Try.prog 100 #[.agg #[.int .i64 n, .slice a l.length cap], .int .i64 M] W fun e w' => ∃ ap capp, e = .returned (.slice ap L capp) ∧ Below W.heap.size W w') := fun W hI =>
      (implParts n _ l M W hI).mono fun e w' ⟨vp, he, ho, hb⟩ => by
        obtain ⟨ap, capp, hv, -, -⟩ := ho.ints.form
        exact ⟨ap, capp, by rw [he, hv, hL], hb⟩
    clear hg hL eM
    go_enter Try.func60, Try.ntmps60
    go_wp2
    rw [← hw0]
    clear hw0
    go_region_held3 (fun W => W.cell? ⟨w.heap.size, 0, none⟩ = some (.int .i64 n) ∧ W.cell? ⟨w.heap.size, 1, none⟩ = some (.slice a l.length cap) ∧ Ints W (.slice a l.length cap) l ∧ Below w.heap.size w W ∧ Below w0.heap.size w0 W)
      (first | exact HST.out _ (Below.refl _ _).drew | exact HST.out _ (Below.refl _ _) | (go_split_ands; exact HST.out _ (btrans (by assumption) hb)))
      (first
        | (go_at_call 83; go_split_ands; refine (HC1.out _ (by assumption)).mono ?_; rintro e wz ⟨rfl, hb⟩)
        | (go_at_call 105; go_split_ands; refine (HC3.out _ (by assumption)).mono ?_; rintro e wz ⟨rfl, hb⟩)
        | (go_at_call 100; go_split_ands; refine (HC2.out _ (by assumption)).mono ?_; rintro e wz ⟨ap, capp, rfl, hb⟩))
    go_split_ands
    have HW := Lib.hid (show Below w.heap.size w wz by assumption)
    go_wp2
    go_ret
    exact ⟨((L : Int) == 1), rfl, by rw [HP.out]; simp; omega, HW.out⟩
  · have HN := Lib.hid (show ¬ ConP n l from fun h => hg h.1)
    have HC1 : Hid (∀ W, Ints W (.slice a l.length cap) l → Calls Try.prog 83 #[.agg #[.int .i64 n, .slice a l.length cap]] W fun e w' => e = .returned (.bool false) ∧ Below W.heap.size W w') := fun W hI =>
      (implIsG_any n _ l W hI).mono fun e w' ⟨r, he, hr, hb⟩ => ⟨by rw [he]; cases r <;> simp_all, hb⟩
    clear hg
    go_enter Try.func60, Try.ntmps60
    go_wp2
    rw [← hw0]
    clear hw0
    have hc0 : ∀ X : Since w0, X.val.cell? ⟨w.heap.size, 0, none⟩ = some (.int .i64 n) := fun X => (HST.out _ X.prop).1
    have hc1 : ∀ X : Since w0, X.val.cell? ⟨w.heap.size, 1, none⟩ = some (.slice a l.length cap) := fun X => (HST.out _ X.prop).2.1
    have HDI : Hid (∀ X : Since w0, Ints X.val (.slice a l.length cap) l) := fun X => (HST.out _ X.prop).2.2.1
    refine wp_region_since (by kernel_rfl) (by kernel_rfl) ?_
    repeat (go_big_quiet_step (exact since_call (HC1.out _ (HDI.out _))))
    refine wpQuiet_nil ?_
    intro X
    have HW := Lib.hid (HST.out _ X.prop).2.2.2.1
    clear hc0 hc1
    go_wp2
    go_ret
    exact SaysB.no HN.out HW.out

end Go.Proofs.Ytbgkceekkinngac
