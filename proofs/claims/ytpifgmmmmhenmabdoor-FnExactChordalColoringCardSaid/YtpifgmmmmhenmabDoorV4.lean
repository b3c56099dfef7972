/- Walks over IsClique. -/
import Derived.Test.YtpifgmmmmhenmabDoorV3
import Derived.Test.YtpifgmmmmhenmabDoorG5
import Derived.Test.YtpifgmmmmhenmabDoorB
import Derived.Test.YtpifgmmmmhenmabDoorR
namespace Go.Proofs.YtpifgmmmmhenmabDoor
set_option linter.unusedVariables false
set_option linter.unusedSimpArgs false
open Go.RowKit Go.Shelf

/-- A set in which all are neighbours. -/
def CliqueS (n : Int) (l : List Int) (x : Int) : Prop := IsS n l x ∧ ∀ v, v < l.length → bitAt x v = 1 → bits .and .i64 x (nth l v) = x - 2 ^ v

instance (n : Int) (l : List Int) (x : Int) : Decidable (CliqueS n l x) := by unfold CliqueS; infer_instance

theorem andNot_sub (x z : Int) (x0 : 0 ≤ x) (x1 : x < 128) (z0 : 0 ≤ z) (z1 : z < 128) : bits .andNot .i64 x z = x - bits .and .i64 x z := by
  obtain ⟨a, rfl⟩ := Int.eq_ofNat_of_zero_le x0
  obtain ⟨b, rfl⟩ := Int.eq_ofNat_of_zero_le z0
  have : ∀ (a b : Fin 128), bits .andNot .i64 ((a.val : Nat) : Int) ((b.val : Nat) : Int) = ((a.val : Nat) : Int) - bits .and .i64 ((a.val : Nat) : Int) ((b.val : Nat) : Int) := by decide +kernel
  exact this ⟨a, by omega⟩ ⟨b, by omega⟩

theorem isS_small {n : Int} {l : List Int} {x : Int} (h : IsS n l x) : x < 128 := by
  have h1 := h.2.2
  have h2 := h.1.1
  have h3 := h.1.2.1
  obtain ⟨-, -, -, s4, -⟩ := shl_one n (by omega) h3
  omega

set_option maxHeartbeats 1000000 in
set_option maxRecDepth 100000 in
theorem specClique (n : Int) (v : Value) (l : List Int) (x : Int) (w : World) (h : Ints w v l) :
    Calls Tryd.prog 97 #[.agg #[.int .i64 n, v], .int .i64 x] w (SaysB (CliqueS n l x) w) := by
  obtain ⟨a, cap, rfl, -, -⟩ := h.form
  have HA := argG' (T := 28) (n := n) h
  have HI := Lib.hid h
  clear h
  go_enter Tryd.func97, Tryd.ntmps97
  go_wp2_with fail
  refine (specIsSet n _ l x _ (HI.out.alloc _)).mono ?_
  rintro e w1 ⟨r, rfl, hr, hb⟩
  have HB := Lib.hid (hb.mono (B' := w.heap.size + 1) (by simp))
  clear hb
  obtain ⟨c0, c1, -, -, hz⟩ := HA.out _ HB.out
  cases r with
  | false =>
    have hno : ¬ IsS n l x := by simpa using hr
    have HN := Lib.hid hno
    clear hr hno
    go_wp2
    go_ret
    exact SaysB.no (fun hg => HN.out hg.1) (HA.out _ HB.out).2.2.2.1
  | true =>
    have HG := Lib.hid (hr.1 rfl)
    have hn1 := HG.out.1.1
    have hn7 := HG.out.1.2.1
    have hnl := HG.out.1.2.2.1
    have x0 := HG.out.2.1
    have HNL := Lib.hid hnl
    have hle : (l.length : Int) ≤ n := by omega
    have hge : n ≤ (l.length : Int) := by omega
    clear hr hnl c0 c1 hz
    go_wp2
    go_loopw [5] (fun i wr => ∃ j : Nat, j ≤ l.length ∧ i = .int .i64 j ∧ Below (w.heap.size + 1) (w.alloc (.cells #[.int .i64 n, .slice a l.length cap] 28)) wr ∧ Hid (∀ v, v < j → bitAt x v = 1 → bits .and .i64 x (nth l v) = x - 2 ^ v)) (fun i _ => l.length - (intOf i).toNat)
    case atStart => exact ⟨0, by omega, rfl, HB.out, fun v hv => absurd hv (by omega)⟩
    case round =>
      obtain ⟨j, hj, rfl, hbel, HJ⟩ := hrel
      obtain ⟨c0, c1, cI, cB, hz⟩ := HA.out _ hbel
      have HBL := Lib.hid hbel
      have HCB := Lib.hid cB
      clear hbel cB
      by_cases hlt : j < l.length
      · obtain ⟨b, off, cap', hv, _, hmx, hb, hcell⟩ := cI.pos (by omega)
        simp only [Value.slice.injEq] at hv
        obtain ⟨rfl, -, rfl⟩ := hv
        obtain ⟨z, hz'⟩ : ∃ z, z = nth l j := ⟨_, rfl⟩
        have d1 := hcell j hlt
        rw [← hz'] at d1
        obtain ⟨t, ht⟩ : ∃ t, t = bitAt x j := ⟨_, rfl⟩
        have e1 : bits .and .i64 (x / 2 ^ j) 1 = t := by rw [ht]; exact and_one_bit x j
        have E1 := Lib.hid e1
        have z1 : t = 0 ∨ t = 1 := by rw [ht]; exact bitAt_two _ _
        obtain ⟨u, hu⟩ : ∃ u, u = bits .and .i64 x z := ⟨_, rfl⟩
        have e2 : bits .and .i64 z x = u := by rw [hu]; exact and_comm' z x
        have HZ := Lib.hid hz'
        have HT := Lib.hid ht
        have HU := Lib.hid hu
        have hjn : (j : Int) < n := by omega
        have hx7 : x < 128 := isS_small HG.out
        obtain ⟨P, eP, hP1, hP2⟩ : ∃ P, (2 : Int) ^ j = P ∧ 1 ≤ P ∧ P ≤ 128 := ⟨_, rfl, (shl_one' j (by omega)).2.2.2.2, (shl_one' j (by omega)).2.2.2.1⟩
        have g1 : IntKind.i64.wrap (1 * P) = P := IntWalk.i64_in _ (by omega) |>.trans (by omega)
        have g2 : IntKind.i64.wrap P = P := IntWalk.i64_in _ (by omega)
        have g3 : IntKind.i64.wrap (x - P) = x - P := IntWalk.i64_in _ (by omega)
        have HP := Lib.hid eP
        unfold maxLen at hmx
        have HN : Hid ((bitAt x j = 1 → bits .and .i64 x (nth l j) = x - 2 ^ j) → ∀ v, v < j + 1 → bitAt x v = 1 → bits .and .i64 x (nth l v) = x - 2 ^ v) := fun hh v hv => by
          rcases Nat.lt_or_ge v j with h | h
          · exact HJ.out v h
          · obtain rfl : v = j := by omega
            exact hh
        clear hcell hz' ht hu cI
        have e1' : bits .and .i64 (x / P) 1 = t := by rw [← eP]; exact E1.out
        rcases z1 with rfl | rfl
        · go_wp2
          go_quiet (fail)
          go_wp2
          go_roundw
          case rel => exact ⟨j + 1, by omega, by go_num, below_drewN HBL.out _, HN.out fun h => by rw [← HT.out] at h; exact absurd h (by decide)⟩
          case measure => simp [intOf]; omega
        · by_cases hu0 : u = x - P
          · have q1 : (u == x - P) = true := by simp [hu0]
            have q2 : (u != x - P) = false := by simp [hu0]
            have H0 := Lib.hid hu0
            clear hu0
            go_wp2
            go_quiet (fail)
            go_wp2
            go_roundw
            case rel => exact ⟨j + 1, by omega, by go_num, below_drewN HBL.out _, HN.out fun _ => by rw [← HZ.out, ← HU.out, HP.out]; exact H0.out⟩
            case measure => simp [intOf]; omega
          · have q1 : (u == x - P) = false := by simp [hu0]
            have q2 : (u != x - P) = true := by simp [hu0]
            have H0 := Lib.hid hu0
            clear hu0
            go_wp2
            go_quiet (fail)
            go_wp2
            go_ret
            exact SaysB.no (fun hg => H0.out (by rw [HU.out, HZ.out, ← HP.out]; exact hg.2 j hlt HT.out.symm)) (below_drewN HCB.out _)
      · obtain rfl : j = l.length := by omega
        clear cI
        go_wp2
        go_ret
        exact SaysB.yes ⟨HG.out, HJ.out⟩ HCB.out


attribute [local go_sem] Oper.semAt_some

theorem keepsOthers_drewN (W : World) (n : Nat) : KeepsOthers W (W.drewN n) := ⟨Nat.le_refl _, fun _ _ h _ => h⟩

/-- Between two rounds: those that have come are joined to all others in x. -/
def ClqI (l : List Int) (x : Int) (w2 : World) (pre : List (Mem x)) (W : World) : Prop := (∀ y ∈ pre, bits .and .i64 x (nth l y.1) = x - 2 ^ y.1) ∧ Below w2.heap.size w2 W

/-- A round has left: the last one is not joined to all others in x. -/
def ClqX (l : List Int) (x : Int) (b : Nat) (w : World) (c : Code) (pre : List (Mem x)) (W : World) : Prop := c = .ret ∧ (∃ y ∈ pre, bits .and .i64 x (nth l y.1) ≠ x - 2 ^ y.1) ∧ W.cell? ⟨b + 1 + 1, 0, none⟩ = some (.bool false) ∧ Below w.heap.size w W

set_option maxHeartbeats 2000000 in
set_option maxRecDepth 100000 in
theorem implClique (n : Int) (v : Value) (l : List Int) (x : Int) (w : World) (h : Ints w v l) :
    Calls Tryd.prog 83 #[.agg #[.int .i64 n, v], .int .i64 x] w (SaysB (CliqueS n l x) w) := by
  obtain ⟨a, cap, rfl, -, -⟩ := h.form
  have HI := Lib.hid h
  clear h
  refine (callsIn_wide (n := 4)).1 ?_
  refine callsIn_of_wp_marks Tryd.func83 rfl trivial ?_ rfl
  simp only [Tryd.ntmps83, List.size_toArray, List.length_cons, List.length_nil, Nat.reduceAdd, Nat.reduceSub, Array.replicate_succ, Array.replicate_zero, List.push_toArray, List.append_toArray, List.nil_append, List.cons_append]
  have BX := Lib.hid (((BoxG.new w 28 n (.slice a l.length cap) ⟨_, _, _, rfl⟩).keep (grown_alloc _ (.cells #[.int .i64 x] 3) none) (by simp)).keep (grown_alloc _ (.cells #[.bool false] 4) none) (by simp))
  have II := Lib.hid (((HI.out.alloc (.cells #[.int .i64 n, .slice a l.length cap] 28)).alloc (.cells #[.int .i64 x] 3)).alloc (.cells #[.bool false] 4))
  have BB := Lib.hid ((((Below.refl _ w).alloc (Nat.le_refl _) (.cells #[.int .i64 n, .slice a l.length cap] 28)).alloc (by simp) (.cells #[.int .i64 x] 3)).alloc (by simp <;> omega) (.cells #[.bool false] 4))
  obtain ⟨W0, hW0⟩ : ∃ W0, W0 = ((w.alloc (.cells #[.int .i64 n, .slice a l.length cap] 28)).alloc (.cells #[.int .i64 x] 3)).alloc (.cells #[.bool false] 4) := ⟨_, rfl⟩
  have S0 : W0.cell? ⟨w.heap.size + 1, 0, none⟩ = some (.int .i64 x) := by rw [hW0]; simp [go_sem]
  have R0 : W0.cell? ⟨w.heap.size + 1 + 1, 0, none⟩ = some (.bool false) := by rw [hW0]; simp [go_sem]
  have R1 : W0.frozen? ⟨w.heap.size + 1 + 1, 0, none⟩ = false := by rw [hW0]; simp [go_sem]
  have Z0 : W0.heap.size = w.heap.size + 3 := by rw [hW0]; simp
  rw [← hW0] at BX II BB
  gi_wp2_with fail
  rw [← hW0]
  refine ⟨trivial, (callsIn_wide.2 (implIsSet n _ l x _ II.out)).mono ?_⟩
  rintro e w1 ⟨r, rfl, hr, hb⟩
  clear hW0
  have BX1 := Lib.hid (BX.out.keep (below_grown hb) (by simp))
  have II1 := Lib.hid (II.out.on hb)
  have BB1 := Lib.hid (BB.out.trans (hb.mono BB.out.size))
  have S1 : w1.cell? ⟨w.heap.size + 1, 0, none⟩ = some (.int .i64 x) := (hb.cell (p := ⟨w.heap.size + 1, 0, none⟩) (by show w.heap.size + 1 < W0.heap.size; omega)).trans S0
  have T1 : w1.cell? ⟨w.heap.size + 1 + 1, 0, none⟩ = some (.bool false) := (hb.cell (p := ⟨w.heap.size + 1 + 1, 0, none⟩) (by show w.heap.size + 1 + 1 < W0.heap.size; omega)).trans R0
  have U1 : w1.frozen? ⟨w.heap.size + 1 + 1, 0, none⟩ = false := (hb.frozen (p := ⟨w.heap.size + 1 + 1, 0, none⟩) (by show w.heap.size + 1 + 1 < W0.heap.size; omega)).trans R1
  have Z1 : w.heap.size + 3 ≤ w1.heap.size := by have := hb.size; omega
  clear hb S0 R0 R1 Z0 BX II BB
  obtain ⟨c0, c1, cz⟩ := BX1.out
  cases r with
  | false =>
    have HN := Lib.hid (show ¬ IsS n l x by simpa using hr)
    clear hr
    gi_wp2
    refine ⟨.bool false, by simp [results, Tryd.f83, go_sem, T1], SaysB.no (fun h => HN.out h.1) ?_⟩
    exact BB1.out.setCell (by simp <;> omega) _
  | true =>
    have HG := Lib.hid (hr.1 rfl)
    clear hr
    obtain ⟨W2, hW2⟩ : ∃ W2, W2 = w1.alloc (.cells #[.int .i64 x] 3) := ⟨_, rfl⟩
    have K : Hid (∀ W, Below W2.heap.size W2 W → W.cell? ⟨w.heap.size + 1, 0, none⟩ = some (.int .i64 x) ∧ BoxG w.heap.size n (.slice a l.length cap) W ∧ W.cell? ⟨w.heap.size + 1 + 1, 0, none⟩ = some (.bool false) ∧ W.frozen? ⟨w.heap.size + 1 + 1, 0, none⟩ = false ∧ Ints W (.slice a l.length cap) l ∧ Below w.heap.size w W ∧ w.heap.size + 3 ≤ W.heap.size) := fun W hb => by
      have hg : w1.grownBy W none := grown_trans (by rw [hW2]; exact grown_alloc w1 _ none) (below_grown hb)
      obtain ⟨hc, hf⟩ := gcell hg
      refine ⟨by rw [hc _ _ (by omega) (by simp)]; exact S1, BX1.out.keep hg (by simp), by rw [hc _ _ (by omega) (by simp)]; exact T1, by rw [hf _ _ (by omega) (by simp)]; exact U1, II1.out.on ⟨hg.os, hg.tape, hg.output, hg.size, fun k hk => hg.block k hk (by simp)⟩, BB1.out.grown hg BB1.out.size (fun k hk => by simp at hk), Nat.le_trans Z1 hg.size⟩
    have hcB : W2.cell? ⟨w1.heap.size, 0, none⟩ = some (.int .i64 x) := by rw [hW2]; simp [go_sem]
    have hz2 : W2.heap.size = w1.heap.size + 1 := by rw [hW2]; simp
    gi_wp2_with fail
    refine ⟨trivial, (callsIn_wide.2 (verticesIn_is x _)).mono ?_⟩
    rintro e w2 ⟨rfl, hw2⟩
    obtain rfl : w2 = W2 := by rw [hW2]; exact hw2.symm
    clear hw2 hW2 c0 c1 cz S1 T1 U1
    gi_wp2_with fail
    refine wpIn_rangeFunc_ownF (w0 := w2) rfl (by omega) (gf := 77) (lb := #[.pointer (some ⟨w1.heap.size, 0, none⟩)]) rfl trivial (enters_of Tryd.func77 (by kernel_rfl) rfl)
      (vin_stops Fence.wide 3 trivial rfl (by omega) w1.heap.size w2.heap.size x w2 (by omega) (by omega) hcB) belowK_t (belowK_b (Nat.le_refl _)) (Below.refl _ _) (fun _ => rfl)
      (ClqI l x w2) (ClqX l x w.heap.size w)
      (fun s A B row hs hg hr => ⟨hs.1, ownFrom_below (β := List (Mem x)) (Nat.le_refl _) (Nat.le_refl _) s A B row hs.2 hg hr⟩)
      (fun c s A B row hs hg hr => ⟨hs.1, hs.2.1, cell_kept hs.2.2.1 hg (fun r e => (hr r e).2), ownFrom_below (β := List (Mem x)) (Nat.le_refl _) (by omega) s A B row hs.2.2.2 hg hr⟩)
      ⟨fun y hy => (by cases hy), Below.refl _ _⟩
      (fun y => { tmps := #[.agg #[.int .i64 n, .slice a l.length cap], .int .i64 x, .pointer (some ⟨w.heap.size, 0, none⟩), .pointer (some ⟨w.heap.size + 1, 0, none⟩), .pointer (some ⟨w.heap.size + 1 + 1, 0, none⟩), .int .i64 (y.1 : Int), .agg #[.int .i64 n, .slice a l.length cap], .int .i64 x, .bool true, .bool false, .int .i64 x, .func (.func 77) #[] #[.pointer (some ⟨w1.heap.size, 0, none⟩)], .int .i64 (y.1 : Int), undef, undef, undef, undef, undef, undef, undef, undef, undef, undef], defers := [] }) ?assign ?body ?done ?stop
    case assign =>
      intro l y W K hK
      gi_wp2
      exact hK
    case body =>
      rintro li pre y W ⟨hpre, hB⟩ hlen
      obtain ⟨d0, ⟨d1, d2, dz⟩, d3, d4, dI, dB, dZ⟩ := K.out W hB
      obtain ⟨k, hk7, hkb⟩ := y
      have hkl : k < l.length := by
        rcases Nat.lt_or_ge k l.length with h | h
        · exact h
        · have h1 := HG.out.2.2
          rw [show n.toNat = l.length by have := HG.out.1.2.2.1; omega] at h1
          have := bit_high x l.length k HG.out.2.1 h1 h
          rw [hkb] at this
          exact absurd this (by decide)
      obtain ⟨b', off', cap', hv, _, hmx, hb', hcell⟩ := dI.pos (by omega)
      simp only [Value.slice.injEq] at hv
      obtain ⟨rfl, -, rfl⟩ := hv
      obtain ⟨z, hz⟩ : ∃ z, z = nth l k := ⟨_, rfl⟩
      have c1 := hcell k hkl
      rw [← hz] at c1
      have hzs := HG.out.1.small k hkl
      rw [← hz] at hzs
      have hx7 : x < 128 := isS_small HG.out
      obtain ⟨t, ht⟩ : ∃ t, t = x - bits .and .i64 x z := ⟨_, rfl⟩
      have e1 : bits .andNot .i64 x z = t := by rw [ht]; exact andNot_sub x z HG.out.2.1 hx7 hzs.1 hzs.2
      obtain ⟨P, eP, hP1, hP2⟩ : ∃ P, (2 : Int) ^ k = P ∧ 1 ≤ P ∧ P ≤ 128 := ⟨_, rfl, (shl_one' k (by omega)).2.2.2.2, (shl_one' k (by omega)).2.2.2.1⟩
      have g1 : IntKind.i64.wrap (1 * P) = P := IntWalk.i64_in _ (by omega) |>.trans (by omega)
      have g2 : IntKind.i64.wrap P = P := IntWalk.i64_in _ (by omega)
      have HP := Lib.hid eP
      have HZ := Lib.hid hz
      have HT := Lib.hid ht
      have HPRE := Lib.hid hpre
      have HBW := Lib.hid hB
      have HDB := Lib.hid dB
      unfold maxLen at hmx
      clear hcell hz ht hpre hB dB dI hzs hx7
      have hmix : Tryd.prog.follows .mixedOrders = true := by kernel_rfl
      by_cases h0 : t = P
      · have q1 : (t == P) = true := by simp [h0]
        have q2 : (t != P) = false := by simp [h0]
        have H0 := Lib.hid h0
        clear h0
        gi_wp2
        refine wpIn_region_still_tail 9 hmix (by kernel_rfl) (by kernel_rfl) ?_
        simp only [List.take_succ_cons, List.take_zero, List.drop_succ_cons, List.drop_zero]
        repeat still_step
        refine wpStill_nil ?_
        gi_wp2
        refine ⟨KeepsOthers.drew _, (Below.refl _ _).drew, ⟨fun y hy => ?_, HBW.out.drew⟩⟩
        rcases List.mem_append.1 hy with hy | hy
        · exact HPRE.out y hy
        · simp at hy
          subst hy
          show bits .and .i64 x (nth l k) = x - 2 ^ k
          have h1 := HT.out
          have h2 := H0.out
          rw [← HZ.out, HP.out]
          clear g1 g2 eP e1
          omega
      · have q1 : (t == P) = false := by simp [h0]
        have q2 : (t != P) = true := by simp [h0]
        have H0 := Lib.hid h0
        clear h0
        gi_wp2
        refine wpIn_region_still_tail 9 hmix (by kernel_rfl) (by kernel_rfl) ?_
        simp only [List.take_succ_cons, List.take_zero, List.drop_succ_cons, List.drop_zero]
        repeat still_step
        refine wpStill_nil ?_
        gi_wp2
        refine ⟨(KeepsOthers.drew _).trans (KeepsOthers.setCell _ _ _), ⟨rfl, ⟨⟨k, hk7, hkb⟩, by simp, ?_⟩, ?_, HDB.out.drew.setCell (by simp <;> omega) _⟩⟩
        · show bits .and .i64 x (nth l k) ≠ x - 2 ^ k
          have h1 := HT.out
          have h2 := H0.out
          rw [← HZ.out, HP.out]
          clear g1 g2 eP e1
          omega
        · exact World.cell?_setCell_same' _ _ _ (by show (W.cell? _).isSome = true; rw [d3]; rfl)
    case done =>
      rintro D ys W hD hys ⟨hall, hB⟩ hK
      obtain ⟨d0, d1, d3, d4, dI, dB, dZ⟩ := K.out W hB
      have HA := Lib.hid hall
      have HDB := Lib.hid dB
      clear hall hB dB dI
      gi_wp2
      have hK' := (KeepsOthers.setCell W ⟨w.heap.size + 1 + 1, 0, none⟩ (.bool true)).same D _ hK rfl
      refine ⟨by simp, .inl ⟨_, _, rfl, run_takeDeferred hK', ?_⟩⟩
      have hc5 := cell_kept (World.cell?_setCell_same' W ⟨w.heap.size + 1 + 1, 0, none⟩ (.bool true) (by rw [d3]; rfl)) (grownBy_putObj' _ D (.deferred none)) (fun r e => by cases e; exact ⟨_, hK', rfl⟩)
      refine ⟨.bool true, by simp [results, Tryd.f83, go_sem, hc5], SaysB.yes ⟨HG.out, fun k hkl hkb => ?_⟩ ((HDB.out.setCell (p := ⟨w.heap.size + 1 + 1, 0, none⟩) (by simp <;> omega) _).trans (belowK_b (w := w) (Nat.le_refl _) _ D _ _ (by omega) hK' rfl rfl))⟩
      have hk7 : k < 7 := by have := HG.out.1.2.2.1; have := HG.out.1.2.1; omega
      have hm : k ∈ memU x 7 := by unfold memU; simp [hk7, hkb]
      rw [← hys] at hm
      obtain ⟨y, hy, rfl⟩ := List.mem_map.1 hm
      exact HA.out y hy
    case stop =>
      rintro D c pre W hD hpre ⟨rfl, ⟨y, hy, hne⟩, hcr, hB⟩ hK
      have HB := Lib.hid hB
      have HNE := Lib.hid hne
      clear hB hne
      gi_wp2
      refine ⟨by simp, .inl ⟨_, _, rfl, run_takeDeferred hK, ?_⟩⟩
      have hc5 := cell_kept hcr (grownBy_putObj' _ D (.deferred none)) (fun r e => by cases e; exact ⟨_, hK, rfl⟩)
      refine ⟨.bool false, by simp [results, Tryd.f83, go_sem, hc5], SaysB.no (fun h => ?_) (HB.out.trans (belowK_b (w := w) (Nat.le_refl _) W D _ _ (by omega) hK rfl rfl))⟩
      have hyl : y.1 < l.length := by
        rcases Nat.lt_or_ge y.1 l.length with h' | h'
        · exact h'
        · have h1 := HG.out.2.2
          rw [show n.toNat = l.length by have := HG.out.1.2.2.1; omega] at h1
          have := bit_high x l.length y.1 HG.out.2.1 h1 h'
          rw [y.2.2] at this
          exact absurd this (by decide)
      exact HNE.out (h.2 y.1 hyl y.2.2)

end Go.Proofs.YtpifgmmmmhenmabDoor
