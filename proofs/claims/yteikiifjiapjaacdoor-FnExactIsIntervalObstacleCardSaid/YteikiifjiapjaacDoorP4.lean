/- The specification's IsClaw and IsTwoEdges. -/
import Derived.Test.YteikiifjiapjaacDoorP2
import Derived.Test.YteikiifjiapjaacDoorQ
namespace Go.Proofs.YteikiifjiapjaacDoor
set_option linter.unusedVariables false
set_option linter.unusedSimpArgs false
open Go.RowKit

set_option maxHeartbeats 16000000 in
set_option maxRecDepth 100000 in
theorem specIsClaw (n : Int) (v vl : Value) (lg l : List Int) (w : World) (h : Ints w v lg) (hl : Ints w vl l) (hlen : l.length ≤ 1048576) :
    Calls Tryd.prog 88 #[.agg #[.int .i64 n, v], vl] w (SaysB (l.length = 4 ∧ HasPat n lg l clawP) w) := by
  obtain ⟨a, cap, rfl, -, -⟩ := h.form
  obtain ⟨al, capl, rfl, -, hml⟩ := hl.form
  have HA := argG' (T := 26) (n := n) h
  have HL := Lib.hid hl
  obtain ⟨w0, hw0⟩ : ∃ w0, w0 = w.alloc (.cells #[.int .i64 n, .slice a lg.length cap] 26) := ⟨_, rfl⟩
  have HST : Hid (∀ W, Below w0.heap.size w0 W → W.cell? ⟨w.heap.size, 0, none⟩ = some (.int .i64 n) ∧ W.cell? ⟨w.heap.size, 1, none⟩ = some (.slice a lg.length cap) ∧ Ints W (.slice a lg.length cap) lg ∧ Ints W (.slice al l.length capl) l ∧ Below w.heap.size w W) := fun W hW => by
    obtain ⟨c0, c1, cI, cB, -⟩ := HA.out W (by rw [← hw0]; exact hW.mono (by rw [hw0]; simp))
    exact ⟨c0, c1, cI, HL.out.on cB, cB⟩
  unfold maxLen at hml
  clear h hl
  have HGI : Hid (∀ X : Since w0, Ints X.val (.slice a lg.length cap) lg ∧ Ints X.val (.slice al l.length capl) l) := fun X => ⟨(HST.out _ X.prop).2.2.1, (HST.out _ X.prop).2.2.2.1⟩
  have hx0 : ∀ X : Since w0, X.val.cell? ⟨w.heap.size, 0, none⟩ = some (.int .i64 n) := fun X => (HST.out _ X.prop).1
  have hx1 : ∀ X : Since w0, X.val.cell? ⟨w.heap.size, 1, none⟩ = some (.slice a lg.length cap) := fun X => (HST.out _ X.prop).2.1
  go_enter Tryd.func88, Tryd.ntmps88
  go_wp2
  rw [← hw0]
  clear hw0
  dsimp only [List.append]
  refine wp_region_since (by kernel_rfl) (by kernel_rfl) ?_
  by_cases hc : l.length = 4
  · have d0 : ((l.length : Int) == 4) = true := by simp; omega
    by_cases hd : Dist n lg l
    · have HC0 : Hid (∀ W, Ints W (.slice a lg.length cap) lg ∧ Ints W (.slice al l.length capl) l → Calls Tryd.prog 106 #[.agg #[.int .i64 n, .slice a lg.length cap], .slice al l.length capl] W fun e w' => e = .returned (.bool true) ∧ Below W.heap.size W w') := fun W hI =>
        (distinct_is n _ _ lg l W hI.1 hI.2 hlen).mono fun e w' ⟨r, he, hr, hb⟩ => ⟨by rw [he, hr.2 hd], hb⟩
      have HD := Lib.hid hd
      clear hd
      obtain ⟨b, off, cap', hv, _, hmx, hbk, hcell⟩ := HL.out.pos (by omega)
      simp only [Value.slice.injEq] at hv
      obtain ⟨rfl, -, rfl⟩ := hv
      unfold maxLen at hmx
      have hl0 : 0 < l.length := by omega
      have hl1 : 1 < l.length := by omega
      have hl2 : 2 < l.length := by omega
      have hl3 : 3 < l.length := by omega
      obtain ⟨x0, y0, z0⟩ := HD.out.at hl0
      have e0 := hcell 0 hl0
      rw [x0] at e0
      obtain ⟨k0, hk0⟩ : ∃ k, k = kl l 0 := ⟨_, rfl⟩
      rw [← hk0] at e0 y0 z0
      have HK0 := Lib.hid hk0
      have hy0 : ∀ X : Since w0, X.val.cell? ⟨b, off, none⟩ = some (.int .i64 k0) := fun X => ((HST.out _ X.prop).2.2.2.2.cell (p := ⟨b, off, none⟩) hbk).trans e0
      have HZ0 := Lib.hid (And.intro y0 z0)
      clear x0 hk0 e0 y0 z0
      obtain ⟨x1, y1, z1⟩ := HD.out.at hl1
      have e1 := hcell 1 hl1
      rw [x1] at e1
      obtain ⟨k1, hk1⟩ : ∃ k, k = kl l 1 := ⟨_, rfl⟩
      rw [← hk1] at e1 y1 z1
      have HK1 := Lib.hid hk1
      have hy1 : ∀ X : Since w0, X.val.cell? ⟨b, off + 1, none⟩ = some (.int .i64 k1) := fun X => ((HST.out _ X.prop).2.2.2.2.cell (p := ⟨b, off + 1, none⟩) hbk).trans e1
      have HZ1 := Lib.hid (And.intro y1 z1)
      clear x1 hk1 e1 y1 z1
      obtain ⟨x2, y2, z2⟩ := HD.out.at hl2
      have e2 := hcell 2 hl2
      rw [x2] at e2
      obtain ⟨k2, hk2⟩ : ∃ k, k = kl l 2 := ⟨_, rfl⟩
      rw [← hk2] at e2 y2 z2
      have HK2 := Lib.hid hk2
      have hy2 : ∀ X : Since w0, X.val.cell? ⟨b, off + 2, none⟩ = some (.int .i64 k2) := fun X => ((HST.out _ X.prop).2.2.2.2.cell (p := ⟨b, off + 2, none⟩) hbk).trans e2
      have HZ2 := Lib.hid (And.intro y2 z2)
      clear x2 hk2 e2 y2 z2
      obtain ⟨x3, y3, z3⟩ := HD.out.at hl3
      have e3 := hcell 3 hl3
      rw [x3] at e3
      obtain ⟨k3, hk3⟩ : ∃ k, k = kl l 3 := ⟨_, rfl⟩
      rw [← hk3] at e3 y3 z3
      have HK3 := Lib.hid hk3
      have hy3 : ∀ X : Since w0, X.val.cell? ⟨b, off + 3, none⟩ = some (.int .i64 k3) := fun X => ((HST.out _ X.prop).2.2.2.2.cell (p := ⟨b, off + 3, none⟩) hbk).trans e3
      have HZ3 := Lib.hid (And.intro y3 z3)
      clear x3 hk3 e3 y3 z3
      have HC := Lib.hid hc
      clear hc hcell
      cases he0 : edB lg k0 k1 with
      | false =>
        have HE0 : Hid (∀ W, Ints W (.slice a lg.length cap) lg → Calls Tryd.prog 57 #[.agg #[.int .i64 n, .slice a lg.length cap], .int .i64 k0, .int .i64 k1] W fun e w' => e = .returned (.bool false) ∧ Below W.heap.size W w') := fun W hI => by rw [← he0]; exact l2Edge_is n _ lg k0 k1 W hI HZ0.out.1 (by have := HZ1.out.2; omega)
        have HN := Lib.hid he0
        clear he0
        repeat (go_big_quiet_step (first | with_reducible exact since_call (HC0.out _ (HGI.out _)) | with_reducible exact since_call (HE0.out _ (HGI.out _).1)))
        refine wpQuiet_nil ?_
        intro X
        have HW := Lib.hid (HST.out _ X.prop).2.2.2.2
        go_wp2
        go_ret
        exact SaysB.no (fun h => by have h1 := h.2.2 1 hl1 0 (by omega); rw [← HK0.out, ← HK1.out, HN.out] at h1; simp [clawP] at h1) HW.out
      | true =>
        have HE0 : Hid (∀ W, Ints W (.slice a lg.length cap) lg → Calls Tryd.prog 57 #[.agg #[.int .i64 n, .slice a lg.length cap], .int .i64 k0, .int .i64 k1] W fun e w' => e = .returned (.bool true) ∧ Below W.heap.size W w') := fun W hI => by rw [← he0]; exact l2Edge_is n _ lg k0 k1 W hI HZ0.out.1 (by have := HZ1.out.2; omega)
        have HN0 := Lib.hid he0
        clear he0
        cases he1 : edB lg k0 k2 with
        | false =>
          have HE1 : Hid (∀ W, Ints W (.slice a lg.length cap) lg → Calls Tryd.prog 57 #[.agg #[.int .i64 n, .slice a lg.length cap], .int .i64 k0, .int .i64 k2] W fun e w' => e = .returned (.bool false) ∧ Below W.heap.size W w') := fun W hI => by rw [← he1]; exact l2Edge_is n _ lg k0 k2 W hI HZ0.out.1 (by have := HZ2.out.2; omega)
          have HN := Lib.hid he1
          clear he1
          repeat (go_big_quiet_step (first | with_reducible exact since_call (HC0.out _ (HGI.out _)) | with_reducible exact since_call (HE0.out _ (HGI.out _).1) | with_reducible exact since_call (HE1.out _ (HGI.out _).1)))
          refine wpQuiet_nil ?_
          intro X
          have HW := Lib.hid (HST.out _ X.prop).2.2.2.2
          go_wp2
          go_ret
          exact SaysB.no (fun h => by have h1 := h.2.2 2 hl2 0 (by omega); rw [← HK0.out, ← HK2.out, HN.out] at h1; simp [clawP] at h1) HW.out
        | true =>
          have HE1 : Hid (∀ W, Ints W (.slice a lg.length cap) lg → Calls Tryd.prog 57 #[.agg #[.int .i64 n, .slice a lg.length cap], .int .i64 k0, .int .i64 k2] W fun e w' => e = .returned (.bool true) ∧ Below W.heap.size W w') := fun W hI => by rw [← he1]; exact l2Edge_is n _ lg k0 k2 W hI HZ0.out.1 (by have := HZ2.out.2; omega)
          have HN1 := Lib.hid he1
          clear he1
          cases he2 : edB lg k0 k3 with
          | false =>
            have HE2 : Hid (∀ W, Ints W (.slice a lg.length cap) lg → Calls Tryd.prog 57 #[.agg #[.int .i64 n, .slice a lg.length cap], .int .i64 k0, .int .i64 k3] W fun e w' => e = .returned (.bool false) ∧ Below W.heap.size W w') := fun W hI => by rw [← he2]; exact l2Edge_is n _ lg k0 k3 W hI HZ0.out.1 (by have := HZ3.out.2; omega)
            have HN := Lib.hid he2
            clear he2
            repeat (go_big_quiet_step (first | with_reducible exact since_call (HC0.out _ (HGI.out _)) | with_reducible exact since_call (HE0.out _ (HGI.out _).1) | with_reducible exact since_call (HE1.out _ (HGI.out _).1) | with_reducible exact since_call (HE2.out _ (HGI.out _).1)))
            refine wpQuiet_nil ?_
            intro X
            have HW := Lib.hid (HST.out _ X.prop).2.2.2.2
            go_wp2
            go_ret
            exact SaysB.no (fun h => by have h1 := h.2.2 3 hl3 0 (by omega); rw [← HK0.out, ← HK3.out, HN.out] at h1; simp [clawP] at h1) HW.out
          | true =>
            have HE2 : Hid (∀ W, Ints W (.slice a lg.length cap) lg → Calls Tryd.prog 57 #[.agg #[.int .i64 n, .slice a lg.length cap], .int .i64 k0, .int .i64 k3] W fun e w' => e = .returned (.bool true) ∧ Below W.heap.size W w') := fun W hI => by rw [← he2]; exact l2Edge_is n _ lg k0 k3 W hI HZ0.out.1 (by have := HZ3.out.2; omega)
            have HN2 := Lib.hid he2
            clear he2
            cases he3 : edB lg k1 k2 with
            | true =>
              have HE3 : Hid (∀ W, Ints W (.slice a lg.length cap) lg → Calls Tryd.prog 57 #[.agg #[.int .i64 n, .slice a lg.length cap], .int .i64 k1, .int .i64 k2] W fun e w' => e = .returned (.bool true) ∧ Below W.heap.size W w') := fun W hI => by rw [← he3]; exact l2Edge_is n _ lg k1 k2 W hI HZ1.out.1 (by have := HZ2.out.2; omega)
              have HN := Lib.hid he3
              clear he3
              repeat (go_big_quiet_step (first | with_reducible exact since_call (HC0.out _ (HGI.out _)) | with_reducible exact since_call (HE0.out _ (HGI.out _).1) | with_reducible exact since_call (HE1.out _ (HGI.out _).1) | with_reducible exact since_call (HE2.out _ (HGI.out _).1) | with_reducible exact since_call (HE3.out _ (HGI.out _).1)))
              refine wpQuiet_nil ?_
              intro X
              have HW := Lib.hid (HST.out _ X.prop).2.2.2.2
              go_wp2
              go_ret
              exact SaysB.no (fun h => by have h1 := h.2.2 2 hl2 1 (by omega); rw [← HK1.out, ← HK2.out, HN.out] at h1; simp [clawP] at h1) HW.out
            | false =>
              have HE3 : Hid (∀ W, Ints W (.slice a lg.length cap) lg → Calls Tryd.prog 57 #[.agg #[.int .i64 n, .slice a lg.length cap], .int .i64 k1, .int .i64 k2] W fun e w' => e = .returned (.bool false) ∧ Below W.heap.size W w') := fun W hI => by rw [← he3]; exact l2Edge_is n _ lg k1 k2 W hI HZ1.out.1 (by have := HZ2.out.2; omega)
              have HN3 := Lib.hid he3
              clear he3
              cases he4 : edB lg k1 k3 with
              | true =>
                have HE4 : Hid (∀ W, Ints W (.slice a lg.length cap) lg → Calls Tryd.prog 57 #[.agg #[.int .i64 n, .slice a lg.length cap], .int .i64 k1, .int .i64 k3] W fun e w' => e = .returned (.bool true) ∧ Below W.heap.size W w') := fun W hI => by rw [← he4]; exact l2Edge_is n _ lg k1 k3 W hI HZ1.out.1 (by have := HZ3.out.2; omega)
                have HN := Lib.hid he4
                clear he4
                repeat (go_big_quiet_step (first | with_reducible exact since_call (HC0.out _ (HGI.out _)) | with_reducible exact since_call (HE0.out _ (HGI.out _).1) | with_reducible exact since_call (HE1.out _ (HGI.out _).1) | with_reducible exact since_call (HE2.out _ (HGI.out _).1) | with_reducible exact since_call (HE3.out _ (HGI.out _).1) | with_reducible exact since_call (HE4.out _ (HGI.out _).1)))
                refine wpQuiet_nil ?_
                intro X
                have HW := Lib.hid (HST.out _ X.prop).2.2.2.2
                go_wp2
                go_ret
                exact SaysB.no (fun h => by have h1 := h.2.2 3 hl3 1 (by omega); rw [← HK1.out, ← HK3.out, HN.out] at h1; simp [clawP] at h1) HW.out
              | false =>
                have HE4 : Hid (∀ W, Ints W (.slice a lg.length cap) lg → Calls Tryd.prog 57 #[.agg #[.int .i64 n, .slice a lg.length cap], .int .i64 k1, .int .i64 k3] W fun e w' => e = .returned (.bool false) ∧ Below W.heap.size W w') := fun W hI => by rw [← he4]; exact l2Edge_is n _ lg k1 k3 W hI HZ1.out.1 (by have := HZ3.out.2; omega)
                have HN4 := Lib.hid he4
                clear he4
                cases he5 : edB lg k2 k3 with
                | true =>
                  have HE5 : Hid (∀ W, Ints W (.slice a lg.length cap) lg → Calls Tryd.prog 57 #[.agg #[.int .i64 n, .slice a lg.length cap], .int .i64 k2, .int .i64 k3] W fun e w' => e = .returned (.bool true) ∧ Below W.heap.size W w') := fun W hI => by rw [← he5]; exact l2Edge_is n _ lg k2 k3 W hI HZ2.out.1 (by have := HZ3.out.2; omega)
                  have HN := Lib.hid he5
                  clear he5
                  repeat (go_big_quiet_step (first | with_reducible exact since_call (HC0.out _ (HGI.out _)) | with_reducible exact since_call (HE0.out _ (HGI.out _).1) | with_reducible exact since_call (HE1.out _ (HGI.out _).1) | with_reducible exact since_call (HE2.out _ (HGI.out _).1) | with_reducible exact since_call (HE3.out _ (HGI.out _).1) | with_reducible exact since_call (HE4.out _ (HGI.out _).1) | with_reducible exact since_call (HE5.out _ (HGI.out _).1)))
                  refine wpQuiet_nil ?_
                  intro X
                  have HW := Lib.hid (HST.out _ X.prop).2.2.2.2
                  go_wp2
                  go_ret
                  exact SaysB.no (fun h => by have h1 := h.2.2 3 hl3 2 (by omega); rw [← HK2.out, ← HK3.out, HN.out] at h1; simp [clawP] at h1) HW.out
                | false =>
                  have HE5 : Hid (∀ W, Ints W (.slice a lg.length cap) lg → Calls Tryd.prog 57 #[.agg #[.int .i64 n, .slice a lg.length cap], .int .i64 k2, .int .i64 k3] W fun e w' => e = .returned (.bool false) ∧ Below W.heap.size W w') := fun W hI => by rw [← he5]; exact l2Edge_is n _ lg k2 k3 W hI HZ2.out.1 (by have := HZ3.out.2; omega)
                  have HN5 := Lib.hid he5
                  clear he5
                  repeat (go_big_quiet_step (first | with_reducible exact since_call (HC0.out _ (HGI.out _)) | with_reducible exact since_call (HE0.out _ (HGI.out _).1) | with_reducible exact since_call (HE1.out _ (HGI.out _).1) | with_reducible exact since_call (HE2.out _ (HGI.out _).1) | with_reducible exact since_call (HE3.out _ (HGI.out _).1) | with_reducible exact since_call (HE4.out _ (HGI.out _).1) | with_reducible exact since_call (HE5.out _ (HGI.out _).1)))
                  refine wpQuiet_nil ?_
                  intro X
                  have HW := Lib.hid (HST.out _ X.prop).2.2.2.2
                  go_wp2
                  go_ret
                  refine SaysB.yes ⟨HC.out, HD.out, (pairs4 (fun i j => edB lg (kl l i) (kl l j) = clawP i j) _ HC.out).2 ⟨by rw [← HK0.out, ← HK1.out, HN0.out]; rfl, by rw [← HK0.out, ← HK2.out, HN1.out]; rfl, by rw [← HK0.out, ← HK3.out, HN2.out]; rfl, by rw [← HK1.out, ← HK2.out, HN3.out]; rfl, by rw [← HK1.out, ← HK3.out, HN4.out]; rfl, by rw [← HK2.out, ← HK3.out, HN5.out]; rfl⟩⟩ HW.out
    · have HC0 : Hid (∀ W, Ints W (.slice a lg.length cap) lg ∧ Ints W (.slice al l.length capl) l → Calls Tryd.prog 106 #[.agg #[.int .i64 n, .slice a lg.length cap], .slice al l.length capl] W fun e w' => e = .returned (.bool false) ∧ Below W.heap.size W w') := fun W hI =>
        (distinct_is n _ _ lg l W hI.1 hI.2 hlen).mono fun e w' ⟨r, he, hr, hb⟩ => ⟨by rw [he]; cases r <;> simp_all, hb⟩
      have HD := Lib.hid hd
      clear hd hc
      repeat (go_big_quiet_step (first | with_reducible exact since_call (HC0.out _ (HGI.out _))))
      refine wpQuiet_nil ?_
      intro X
      have HW := Lib.hid (HST.out _ X.prop).2.2.2.2
      go_wp2
      go_ret
      exact SaysB.no (fun h => HD.out h.2.1) HW.out
  · have d0 : ((l.length : Int) == 4) = false := by simp; omega
    have HC := Lib.hid hc
    clear hc
    repeat (go_big_quiet_step (fail))
    refine wpQuiet_nil ?_
    intro X
    have HW := Lib.hid (HST.out _ X.prop).2.2.2.2
    go_wp2
    go_ret
    exact SaysB.no (fun h => HC.out h.1) HW.out

end Go.Proofs.YteikiifjiapjaacDoor
