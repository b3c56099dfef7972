/- Walks over IsClique. -/
import Derived.Test.YtpifgmmmmhenmabV3
import Derived.Test.YtpifgmmmmhenmabG5
import Derived.Test.YtpifgmmmmhenmabB
import Derived.Test.YtpifgmmmmhenmabR
namespace Go.Proofs.Ytpifgmmmmhenmab
set_option linter.unusedVariables false
set_option linter.unusedSimpArgs false
open Go.RowKit Go.Shelf

/-- A set in which all are neighbours. -/
def CliqueS (n : Int) (l : List Int) (x : Int) : Prop := IsS n l x ∧ ∀ v, v < l.length → bitAt x v = 1 → bits .and .i64 x (nth l v) = x - 2 ^ v

instance (n : Int) (l : List Int) (x : Int) : Decidable (CliqueS n l x) := by unfold CliqueS; infer_instance

theorem andNot_sub (x z : Int) (x0 : 0 ≤ x) (x1 : x < 128) (z0 : 0 ≤ z) (z1 : z < 128) : bits .andNot .i64 x z = x - bits .and .i64 x z := by
  obtain ⟨a, rfl⟩ := Int.eq_ofNat_of_zero_le x0
  obtain ⟨b, rfl⟩ := Int.eq_ofNat_of_zero_le z0
  have : ∀ (a b : Fin 128), bits .andNot .i64 ((a.val : Nat) : Int) ((b.val : Nat) : Int) = ((a.val : Nat) : Int) - bits .and .i64 ((a.val : Nat) : Int) ((b.val : Nat) : Int) := by decide +kernel
  exact this ⟨a, by omega⟩ ⟨b, by omega⟩

theorem isS_small {n : Int} {l : List Int} {x : Int} (h : IsS n l x) : x < 128 := by
  have h1 := h.2.2
  have h2 := h.1.1
  have h3 := h.1.2.1
  obtain ⟨-, -, -, s4, -⟩ := shl_one n (by omega) h3
  omega

set_option maxHeartbeats 1000000 in
set_option maxRecDepth 100000 in
theorem specClique (n : Int) (v : Value) (l : List Int) (x : Int) (w : World) (h : Ints w v l) :
    Calls Try.prog 72 #[.agg #[.int .i64 n, v], .int .i64 x] w (SaysB (CliqueS n l x) w) := by
  obtain ⟨a, cap, rfl, -, -⟩ := h.form
  have HA := argG' (T := 27) (n := n) h
  have HI := Lib.hid h
  clear h
  go_enter Try.func72, Try.ntmps72
  go_wp2_with fail
  refine (specIsSet n _ l x _ (HI.out.alloc _)).mono ?_
  rintro e w1 ⟨r, rfl, hr, hb⟩
  have HB := Lib.hid (hb.mono (B' := w.heap.size + 1) (by simp))
  clear hb
  obtain ⟨c0, c1, -, -, hz⟩ := HA.out _ HB.out
  cases r with
  | false =>
    have hno : ¬ IsS n l x := by simpa using hr
    have HN := Lib.hid hno
    clear hr hno
    go_wp2
    go_ret
    exact SaysB.no (fun hg => HN.out hg.1) (HA.out _ HB.out).2.2.2.1
  | true =>
    have HG := Lib.hid (hr.1 rfl)
    have hn1 := HG.out.1.1
    have hn7 := HG.out.1.2.1
    have hnl := HG.out.1.2.2.1
    have x0 := HG.out.2.1
    have HNL := Lib.hid hnl
    have hle : (l.length : Int) ≤ n := by omega
    have hge : n ≤ (l.length : Int) := by omega
    clear hr hnl c0 c1 hz
    go_wp2
    go_loopw [5] (fun i wr => ∃ j : Nat, j ≤ l.length ∧ i = .int .i64 j ∧ Below (w.heap.size + 1) (w.alloc (.cells #[.int .i64 n, .slice a l.length cap] 27)) wr ∧ Hid (∀ v, v < j → bitAt x v = 1 → bits .and .i64 x (nth l v) = x - 2 ^ v)) (fun i _ => l.length - (intOf i).toNat)
    case atStart => exact ⟨0, by omega, rfl, HB.out, fun v hv => absurd hv (by omega)⟩
    case round =>
      obtain ⟨j, hj, rfl, hbel, HJ⟩ := hrel
      obtain ⟨c0, c1, cI, cB, hz⟩ := HA.out _ hbel
      have HBL := Lib.hid hbel
      have HCB := Lib.hid cB
      clear hbel cB
      by_cases hlt : j < l.length
      · obtain ⟨b, off, cap', hv, _, hmx, hb, hcell⟩ := cI.pos (by omega)
        simp only [Value.slice.injEq] at hv
        obtain ⟨rfl, -, rfl⟩ := hv
        obtain ⟨z, hz'⟩ : ∃ z, z = nth l j := ⟨_, rfl⟩
        have d1 := hcell j hlt
        rw [← hz'] at d1
        obtain ⟨t, ht⟩ : ∃ t, t = bitAt x j := ⟨_, rfl⟩
        have e1 : bits .and .i64 (x / 2 ^ j) 1 = t := by rw [ht]; exact and_one_bit x j
        have E1 := Lib.hid e1
        have z1 : t = 0 ∨ t = 1 := by rw [ht]; exact bitAt_two _ _
        obtain ⟨u, hu⟩ : ∃ u, u = bits .and .i64 x z := ⟨_, rfl⟩
        have e2 : bits .and .i64 z x = u := by rw [hu]; exact and_comm' z x
        have HZ := Lib.hid hz'
        have HT := Lib.hid ht
        have HU := Lib.hid hu
        have hjn : (j : Int) < n := by omega
        have hx7 : x < 128 := isS_small HG.out
        obtain ⟨P, eP, hP1, hP2⟩ : ∃ P, (2 : Int) ^ j = P ∧ 1 ≤ P ∧ P ≤ 128 := ⟨_, rfl, (shl_one' j (by omega)).2.2.2.2, (shl_one' j (by omega)).2.2.2.1⟩
        have g1 : IntKind.i64.wrap (1 * P) = P := IntWalk.i64_in _ (by omega) |>.trans (by omega)
        have g2 : IntKind.i64.wrap P = P := IntWalk.i64_in _ (by omega)
        have g3 : IntKind.i64.wrap (x - P) = x - P := IntWalk.i64_in _ (by omega)
        have HP := Lib.hid eP
        unfold maxLen at hmx
        have HN : Hid ((bitAt x j = 1 → bits .and .i64 x (nth l j) = x - 2 ^ j) → ∀ v, v < j + 1 → bitAt x v = 1 → bits .and .i64 x (nth l v) = x - 2 ^ v) := fun hh v hv => by
          rcases Nat.lt_or_ge v j with h | h
          · exact HJ.out v h
          · obtain rfl : v = j := by omega
            exact hh
        clear hcell hz' ht hu cI
        have e1' : bits .and .i64 (x / P) 1 = t := by rw [← eP]; exact E1.out
        rcases z1 with rfl | rfl
        · go_wp2
          go_quiet (fail)
          go_wp2
          go_roundw
          case rel => exact ⟨j + 1, by omega, by go_num, below_drewN HBL.out _, HN.out fun h => by rw [← HT.out] at h; exact absurd h (by decide)⟩
          case measure => simp [intOf]; omega
        · by_cases hu0 : u = x - P
          · have q1 : (u == x - P) = true := by simp [hu0]
            have q2 : (u != x - P) = false := by simp [hu0]
            have H0 := Lib.hid hu0
            clear hu0
            go_wp2
            go_quiet (fail)
            go_wp2
            go_roundw
            case rel => exact ⟨j + 1, by omega, by go_num, below_drewN HBL.out _, HN.out fun _ => by rw [← HZ.out, ← HU.out, HP.out]; exact H0.out⟩
            case measure => simp [intOf]; omega
          · have q1 : (u == x - P) = false := by simp [hu0]
            have q2 : (u != x - P) = true := by simp [hu0]
            have H0 := Lib.hid hu0
            clear hu0
            go_wp2
            go_quiet (fail)
            go_wp2
            go_ret
            exact SaysB.no (fun hg => H0.out (by rw [HU.out, HZ.out, ← HP.out]; exact hg.2 j hlt HT.out.symm)) (below_drewN HCB.out _)
      · obtain rfl : j = l.length := by omega
        clear cI
        go_wp2
        go_ret
        exact SaysB.yes ⟨HG.out, HJ.out⟩ HCB.out


attribute [local go_sem] Oper.semAt_some

theorem keepsOthers_drewN (W : World) (n : Nat) : KeepsOthers W (W.drewN n) := ⟨Nat.le_refl _, fun _ _ h _ => h⟩

/-- Between two rounds: those that have come are joined to all others in x. -/
def ClqI (l : List Int) (x : Int) (w2 : World) (pre : List (Mem x)) (W : World) : Prop := (∀ y ∈ pre, bits .and .i64 x (nth l y.1) = x - 2 ^ y.1) ∧ Below w2.heap.size w2 W

/-- A round has left: the last one is not joined to all others in x. -/
def ClqX (l : List Int) (x : Int) (b : Nat) (w : World) (c : Code) (pre : List (Mem x)) (W : World) : Prop := c = .ret ∧ (∃ y ∈ pre, bits .and .i64 x (nth l y.1) ≠ x - 2 ^ y.1) ∧ W.cell? ⟨b + 1 + 1, 0, none⟩ = some (.bool false) ∧ Below w.heap.size w W

end Go.Proofs.Ytpifgmmmmhenmab
