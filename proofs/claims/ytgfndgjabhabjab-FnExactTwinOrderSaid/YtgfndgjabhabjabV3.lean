/- Walks over the specification's IsIndependent. -/
import Derived.Test.YtgfndgjabhabjabV2
namespace Go.Proofs.Ytgfndgjabhabjab
set_option linter.unusedVariables false
set_option linter.unusedSimpArgs false
open Go.RowKit

set_option maxHeartbeats 1000000 in
set_option maxRecDepth 100000 in
theorem specIndep (n : Int) (v : Value) (l : List Int) (x : Int) (w : World) (h : Ints w v l) :
    Calls Try.prog 69 #[.agg #[.int .i64 n, v], .int .i64 x] w (SaysB (IndepS n l x) w) := by
  obtain ⟨a, cap, rfl, -, -⟩ := h.form
  have HA := argG' (T := 28) (n := n) h
  have HI := Lib.hid h
  clear h
  go_enter Try.func69, Try.ntmps69
  go_wp2_with fail
  refine (specIsSet n _ l x _ (HI.out.alloc _)).mono ?_
  rintro e w1 ⟨r, rfl, hr, hb⟩
  have HB := Lib.hid (hb.mono (B' := w.heap.size + 1) (by simp))
  clear hb
  obtain ⟨c0, c1, -, -, hz⟩ := HA.out _ HB.out
  cases r with
  | false =>
    have hno : ¬ IsS n l x := by simpa using hr
    have HN := Lib.hid hno
    clear hr hno
    go_wp2
    go_ret
    exact SaysB.no (fun hg => HN.out hg.1) (HA.out _ HB.out).2.2.2.1
  | true =>
    have HG := Lib.hid (hr.1 rfl)
    have hn1 := HG.out.1.1
    have hn7 := HG.out.1.2.1
    have hnl := HG.out.1.2.2.1
    have x0 := HG.out.2.1
    have HNL := Lib.hid hnl
    have hle : (l.length : Int) ≤ n := by omega
    have hge : n ≤ (l.length : Int) := by omega
    clear hr hnl c0 c1 hz
    go_wp2
    go_loopw [5] (fun i wr => ∃ j : Nat, j ≤ l.length ∧ i = .int .i64 j ∧ Below (w.heap.size + 1) (w.alloc (.cells #[.int .i64 n, .slice a l.length cap] 28)) wr ∧ Hid (∀ v, v < j → bitAt x v = 1 → bits .and .i64 x (nth l v) = 0)) (fun i _ => l.length - (intOf i).toNat)
    case atStart => exact ⟨0, by omega, rfl, HB.out, fun v hv => absurd hv (by omega)⟩
    case round =>
      obtain ⟨j, hj, rfl, hbel, HJ⟩ := hrel
      obtain ⟨c0, c1, cI, cB, hz⟩ := HA.out _ hbel
      have HBL := Lib.hid hbel
      have HCB := Lib.hid cB
      clear hbel cB
      by_cases hlt : j < l.length
      · obtain ⟨b, off, cap', hv, _, hmx, hb, hcell⟩ := cI.pos (by omega)
        simp only [Value.slice.injEq] at hv
        obtain ⟨rfl, -, rfl⟩ := hv
        obtain ⟨z, hz'⟩ : ∃ z, z = nth l j := ⟨_, rfl⟩
        have d1 := hcell j hlt
        rw [← hz'] at d1
        obtain ⟨t, ht⟩ : ∃ t, t = bitAt x j := ⟨_, rfl⟩
        have e1 : bits .and .i64 (x / 2 ^ j) 1 = t := by rw [ht]; exact and_one_bit x j
        have z1 : t = 0 ∨ t = 1 := by rw [ht]; exact bitAt_two _ _
        obtain ⟨u, hu⟩ : ∃ u, u = bits .and .i64 x z := ⟨_, rfl⟩
        have e2 : bits .and .i64 z x = u := by rw [hu]; exact and_comm' z x
        have HZ := Lib.hid hz'
        have HT := Lib.hid ht
        have HU := Lib.hid hu
        have hjn : (j : Int) < n := by omega
        unfold maxLen at hmx
        have HN : Hid ((bitAt x j = 1 → bits .and .i64 x (nth l j) = 0) → ∀ v, v < j + 1 → bitAt x v = 1 → bits .and .i64 x (nth l v) = 0) := fun hh v hv => by
          rcases Nat.lt_or_ge v j with h | h
          · exact HJ.out v h
          · obtain rfl : v = j := by omega
            exact hh
        clear hcell hz' ht hu cI
        rcases z1 with rfl | rfl
        · go_wp2
          go_roundw
          case rel => exact ⟨j + 1, by omega, by go_num, HBL.out, HN.out fun h => by rw [← HT.out] at h; exact absurd h (by decide)⟩
          case measure => simp [intOf]; omega
        · by_cases hu0 : u = 0
          · subst hu0
            go_wp2
            go_roundw
            case rel => exact ⟨j + 1, by omega, by go_num, HBL.out, HN.out fun _ => by rw [← HZ.out, ← HU.out]⟩
            case measure => simp [intOf]; omega
          · have q1 : (u == 0) = false := by simp [hu0]
            have q2 : (u != 0) = true := by simp [hu0]
            go_wp2
            go_ret
            exact SaysB.no (fun hg => hu0 (by rw [HU.out, HZ.out]; exact hg.2 j hlt HT.out.symm)) HCB.out
      · obtain rfl : j = l.length := by omega
        clear cI
        go_wp2
        go_ret
        exact SaysB.yes ⟨HG.out, HJ.out⟩ HCB.out

end Go.Proofs.Ytgfndgjabhabjab
