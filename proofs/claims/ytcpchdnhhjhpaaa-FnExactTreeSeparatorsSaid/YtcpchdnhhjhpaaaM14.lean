/- IsLexOrder. -/
import Derived.Test.YtcpchdnhhjhpaaaM12
import Derived.Test.YtcpchdnhhjhpaaaT2
namespace Go.Proofs.Ytcpchdnhhjhpaaa
set_option linter.unusedVariables false
set_option linter.unusedSimpArgs false
open Go.RowKit

/-- The mark of v behind i places. -/
def lexN (lg l : List Int) (v : Nat) : Nat → Nat
  | 0 => 0
  | i + 1 => 2 * lexN lg l v i + (edB lg (kl l i) v).toNat

theorem lexN_lt (lg l : List Int) (v i : Nat) : lexN lg l v i < 2 ^ i := by
  induction i with
  | zero => simp [lexN]
  | succ i ih =>
    have : (edB lg (kl l i) v).toNat ≤ 1 := by cases edB lg (kl l i) v <;> decide
    have h2 : 2 ^ (i + 1) = 2 * 2 ^ i := by rw [Nat.pow_succ]; omega
    show 2 * lexN lg l v i + _ < _
    omega

theorem lexN_congr (lg l m : List Int) (v i : Nat) (h : ∀ j, j < i → kl l j = kl m j) : lexN lg l v i = lexN lg m v i := by
  induction i with
  | zero => rfl
  | succ i ih =>
    show 2 * lexN lg l v i + _ = 2 * lexN lg m v i + _
    rw [ih fun j hj => h j (by omega), h i (by omega)]

/-- The label of v after j rounds, the order m long. -/
def labN (lg l : List Int) (v m : Nat) : Nat → Nat
  | 0 => 0
  | j + 1 => labN lg l v m j * 2 + if j < m ∧ edB lg (kl l j) v = true then 1 else 0

theorem labN_lt (lg l : List Int) (v m j : Nat) : labN lg l v m j < 2 ^ j := by
  induction j with
  | zero => simp [labN]
  | succ j ih =>
    have h2 : 2 ^ (j + 1) = 2 * 2 ^ j := by rw [Nat.pow_succ]; omega
    show labN lg l v m j * 2 + _ < _
    split <;> omega

theorem lab_in (lg l : List Int) (v m j : Nat) (h : j ≤ m) : labN lg l v m j = lexN lg l v j := by
  induction j with
  | zero => rfl
  | succ j ih =>
    show labN lg l v m j * 2 + _ = 2 * lexN lg l v j + _
    rw [ih (by omega)]
    cases he : edB lg (kl l j) v <;> simp [show j < m from h] <;> omega

theorem lab_out (lg l : List Int) (v m d : Nat) : labN lg l v m (m + d) = lexN lg l v m * 2 ^ d := by
  induction d with
  | zero => rw [Nat.add_zero, lab_in lg l v m m (Nat.le_refl _)]; omega
  | succ d ih =>
    have h2 : 2 ^ (d + 1) = 2 ^ d * 2 := Nat.pow_succ ..
    show labN lg l v m (m + d) * 2 + _ = _
    rw [ih, if_neg (fun h => absurd h.1 (Nat.not_lt.2 (Nat.le_add_right m d))), h2]
    simp [Nat.mul_assoc]

theorem lab_less (lg l : List Int) (a b m : Nat) (h : m ≤ 7) : labN lg l b m 7 < labN lg l a m 7 ↔ lexN lg l b m < lexN lg l a m := by
  obtain ⟨d, hd⟩ : ∃ d, 7 = m + d := ⟨7 - m, by omega⟩
  rw [hd, lab_out, lab_out]
  exact ⟨fun h => Nat.lt_of_mul_lt_mul_right h, fun h => Nat.mul_lt_mul_of_pos_right h (Nat.pow_pos (by decide))⟩

/-- Nobody behind has a greater mark. -/
def LexP (lg l : List Int) : Prop := ∀ i, i < l.length → ∀ k, k < l.length → i < k → lexN lg l (kl l k) i ≤ lexN lg l (kl l i) i

instance (lg l : List Int) : Decidable (LexP lg l) := by unfold LexP; infer_instance

def LexR (n : Int) (lg l : List Int) : Prop := OrdP n lg l ∧ LexP lg l

instance (n : Int) (lg l : List Int) : Decidable (LexR n lg l) := by unfold LexR; infer_instance

theorem or_low (P b : Nat) (hP : P < 64) (hb : b < 2) : bits .or .i64 ((P : Int) * 2) (b : Int) = ((2 * P + b : Nat) : Int) := by
  have : ∀ (P : Fin 64) (b : Fin 2), bits .or .i64 (((P.val : Nat) : Int) * 2) ((b.val : Nat) : Int) = ((2 * P.val + b.val : Nat) : Int) := by decide +kernel
  exact this ⟨P, hP⟩ ⟨b, hb⟩

theorem lex_small (lg l : List Int) (v i : Nat) (h : i < 7) : lexN lg l v i < 64 := by
  have h1 := lexN_lt lg l v i
  have h2 : 2 ^ i ≤ 2 ^ 6 := Nat.pow_le_pow_right (by decide) (by omega)
  omega

theorem lab_small (lg l : List Int) (v m j : Nat) (h : j < 7) : labN lg l v m j < 64 := by
  have h1 := labN_lt lg l v m j
  have h2 : 2 ^ j ≤ 2 ^ 6 := Nat.pow_le_pow_right (by decide) (by omega)
  omega

set_option maxHeartbeats 4000000 in
set_option maxRecDepth 100000 in
theorem implLexMark (n : Int) (v vl : Value) (lg l : List Int) (k : Nat) (w : World) (h : Ints w v lg) (hl : Ints w vl l) (hg : IsG n lg) (hk : k < lg.length) (ho : ∀ i, i < l.length → nth l i = (kl l i : Int) ∧ kl l i < lg.length) (hlen : l.length ≤ 7) :
    Calls Try.prog 73 #[.agg #[.int .i64 n, v], vl, .int .i64 k] w (SaysN (lexN lg l k l.length : Nat) w) := by
  have h9 := h
  obtain ⟨bg, offg, cap, rfl, -, hmg, hbg, hcg⟩ := h.pos (by omega)
  obtain ⟨al, capl, rfl, hcl, hml⟩ := hl.form
  have HA := argG' (T := 28) (n := n) h9
  have HL := Lib.hid hl
  have HO := Lib.hid ho
  have HSY : Hid (∀ i j, i < lg.length → j < lg.length → edB lg i j = edB lg j i) := fun i j hi hj => edB_sym hg hi hj
  have hm7 : lg.length ≤ 7 := by have := hg.2.1; have := hg.2.2.1; omega
  obtain ⟨X, hX⟩ : ∃ X, X = nth lg k := ⟨_, rfl⟩
  have hcg1 := hcg k hk
  rw [← hX] at hcg1
  have HCG := Lib.hid hcg1
  have HXX := Lib.hid hX
  unfold maxLen at hml hmg
  clear h hl ho h9 hg hcg hX hcg1
  go_enter Try.func73, Try.ntmps73
  go_wp2
  go_loopw [7, 12] (fun s x wr => ∃ i P : Nat, i ≤ l.length ∧ x = .int .i64 i ∧ s = .int .i64 P ∧ Hid (P = lexN lg l k i) ∧ Below (w.heap.size + 1) (w.alloc (.cells #[.int .i64 n, .slice (some ⟨bg, offg, none⟩) lg.length cap] 28)) wr) (fun _ x _ => l.length - (intOf x).toNat)
  case atStart => exact ⟨0, 0, by omega, rfl, rfl, rfl, Below.refl _ _⟩
  case round =>
    obtain ⟨i, P, hi, rfl, rfl, HJ, hbel⟩ := hrel
    have HBL := Lib.hid hbel
    clear hbel
    obtain ⟨c0, c1, cI, cB, hz⟩ := HA.out _ HBL.out
    have HCB := Lib.hid cB
    clear cI cB
    by_cases hlt : i < l.length
    · obtain ⟨b2, off2, capl', hv, hc2, hmx2, hbk2, hcell2⟩ := HL.out.pos (by omega)
      simp only [Value.slice.injEq] at hv
      obtain ⟨rfl, -, rfl⟩ := hv
      obtain ⟨hki, hki2⟩ := HO.out i hlt
      have e1 := (HCB.out.cell (p := ⟨b2, off2 + i, none⟩) hbk2).trans (hcell2 i hlt)
      rw [hki] at e1
      have e2 := (HCB.out.cell (p := ⟨bg, offg + k, none⟩) hbg).trans HCG.out
      obtain ⟨x, hx⟩ : ∃ x, x = kl l i := ⟨_, rfl⟩
      rw [← hx] at e1 hki2
      obtain ⟨B, hB⟩ : ∃ B, B = (edB lg x k).toNat := ⟨_, rfl⟩
      have hB2 : B < 2 := by rw [hB]; cases edB lg x k <;> decide
      have hP64 : P < 64 := by rw [HJ.out]; exact lex_small lg l k i (by omega)
      have e3 : bits .and .i64 (X / 2 ^ x) 1 = (B : Int) := by
        rw [and_one_bit, hB, HSY.out x k hki2 hk]
        unfold edB
        rw [← HXX.out]
        rcases bitAt_two X x with h | h <;> rw [h] <;> rfl
      have e4 := or_low P B hP64 hB2
      obtain ⟨R, hR⟩ : ∃ R, R = 2 * P + B := ⟨_, rfl⟩
      rw [← hR] at e4
      have HT : Hid (R = lexN lg l k (i + 1)) := by
        show R = 2 * lexN lg l k i + (edB lg (kl l i) k).toNat
        rw [hR, ← HJ.out, ← hx, ← hB]
      clear hcell2 hki hx hB hR
      go_wp2
      go_roundw
      case rel => exact ⟨i + 1, R, by omega, by go_num, rfl, HT.out, HBL.out⟩
      case measure => simp [intOf]; omega
    · obtain rfl : i = l.length := by omega
      have HQ := Lib.hid (congrArg (fun z : Nat => (z : Int)) HJ.out)
      go_wp2
      go_ret
      exact ⟨by rw [← HQ.out]; rfl, HCB.out⟩

set_option maxHeartbeats 4000000 in
set_option maxRecDepth 100000 in
theorem specLabel (n : Int) (v vl : Value) (lg l : List Int) (k : Nat) (w : World) (h : Ints w v lg) (hl : Ints w vl l) (hk : k < 7) (ho : ∀ i, i < l.length → nth l i = (kl l i : Int) ∧ kl l i < lg.length) (hlen : l.length ≤ 7) :
    Calls Try.prog 71 #[.agg #[.int .i64 n, v], vl, .int .i64 k] w (SaysN (labN lg l k l.length 7 : Nat) w) := by
  obtain ⟨a, cap, rfl, -, -⟩ := h.form
  obtain ⟨al, capl, rfl, hcl, hml⟩ := hl.form
  have HA := argG' (T := 28) (n := n) h
  have HL := Lib.hid hl
  have HO := Lib.hid ho
  unfold maxLen at hml
  clear h hl ho
  go_enter Try.func71, Try.ntmps71
  go_wp2
  go_loopw [7, 8] (fun s x wr => ∃ i P : Nat, i ≤ 7 ∧ P < 128 ∧ x = .int .i64 i ∧ s = .int .i64 P ∧ Hid (P = labN lg l k l.length i) ∧ Below (w.heap.size + 1) (w.alloc (.cells #[.int .i64 n, .slice a lg.length cap] 28)) wr) (fun _ x _ => 7 - (intOf x).toNat)
  case atStart => exact ⟨0, 0, by omega, by omega, rfl, rfl, rfl, Below.refl _ _⟩
  case round =>
    obtain ⟨i, P, hi, hP, rfl, rfl, HJ, hbel⟩ := hrel
    have HBL := Lib.hid hbel
    clear hbel
    obtain ⟨-, -, -, cB, hz⟩ := HA.out _ HBL.out
    have HCB := Lib.hid cB
    clear cB
    by_cases hlt : i < 7
    · have hP64 : P < 64 := by rw [HJ.out]; exact lab_small lg l k l.length i hlt
      have u1 : IntKind.i64.wrap ((P : Int) * 2) = (P : Int) * 2 := IntWalk.i64_in _ (by omega)
      by_cases hil : i < l.length
      · have d0 : decide ((i : Int) < (l.length : Int)) = true := by simp; omega
        obtain ⟨b2, off2, capl', hv, hc2, hmx2, hbk2, hcell2⟩ := HL.out.pos (by omega)
        simp only [Value.slice.injEq] at hv
        obtain ⟨rfl, -, rfl⟩ := hv
        have HC2 := Lib.hid hcell2
        obtain ⟨hki, hki2⟩ := HO.out i hil
        obtain ⟨x, hx⟩ : ∃ x, x = kl l i := ⟨_, rfl⟩
        rw [← hx] at hki hki2
        have HXX := Lib.hid hx
        have HV1 := Lib.hid hki
        clear hcell2 hki hx
        have HX : Hid (∀ X : Since wr, ArgG 28 w n (.slice a lg.length cap) lg X.val) := fun X => HA.out _ (HBL.out.trans (X.prop.mono hz))
        have hx0 : ∀ X : Since wr, X.val.cell? ⟨w.heap.size, 0, none⟩ = some (.int .i64 n) := fun X => (HX.out X).1
        have hx1 : ∀ X : Since wr, X.val.cell? ⟨w.heap.size, 1, none⟩ = some (.slice a lg.length cap) := fun X => (HX.out X).2.1
        have hx2 : ∀ X : Since wr, X.val.cell? ⟨b2, off2 + i, none⟩ = some (.int .i64 x) := fun X => by
          rw [← HV1.out]; exact ((HX.out X).2.2.2.1.cell (p := ⟨b2, off2 + i, none⟩) hbk2).trans (HC2.out i hil)
        obtain ⟨E, hE⟩ : ∃ E, E = edB lg x k := ⟨_, rfl⟩
        have HC1 : Hid (∀ X : Since wr, Calls Try.prog 104 #[.agg #[.int .i64 n, .slice a lg.length cap], .int .i64 x, .int .i64 k] X.val fun e w' => e = .returned (.bool E) ∧ Below X.val.heap.size X.val w') := fun X => by rw [hE]; exact l2Edge_is n _ lg x k _ (HX.out X).2.2.1 hki2 (by omega)
        have HE := Lib.hid hE
        clear hE
        go_wp2
        refine wp_region_since (by kernel_rfl) (by kernel_rfl) ?_
        repeat (go_big_quiet_step (exact since_call (HC1.out _)))
        refine wpQuiet_nil ?_
        intro X
        have HB3 := Lib.hid (HBL.out.trans (X.prop.mono hz))
        clear hx0 hx1 hx2 hz d0
        cases E with
        | false =>
          have HT : Hid (P * 2 = labN lg l k l.length (i + 1)) := by
            show P * 2 = labN lg l k l.length i * 2 + if i < l.length ∧ edB lg (kl l i) k = true then 1 else 0
            rw [← HJ.out, ← HXX.out, ← HE.out, if_neg (fun h => absurd h.2 (by decide)), Nat.add_zero]
          go_wp2
          go_roundw
          case rel => exact ⟨i + 1, P * 2, by omega, by omega, by go_num, by go_num, HT.out, HB3.out⟩
          case measure => simp [intOf]; omega
        | true =>
          have HT : Hid (P * 2 + 1 = labN lg l k l.length (i + 1)) := by
            show P * 2 + 1 = labN lg l k l.length i * 2 + if i < l.length ∧ edB lg (kl l i) k = true then 1 else 0
            rw [← HJ.out, ← HXX.out, ← HE.out, if_pos ⟨hil, rfl⟩]
          go_wp2
          go_roundw
          case rel => exact ⟨i + 1, P * 2 + 1, by omega, by omega, by go_num, by go_num, HT.out, HB3.out⟩
          case measure => simp [intOf]; omega
      · have d0 : decide ((i : Int) < (l.length : Int)) = false := by simp; omega
        go_wp2
        refine wp_region_since (by kernel_rfl) (by kernel_rfl) ?_
        repeat (go_big_quiet_step (fail))
        refine wpQuiet_nil ?_
        intro X
        have HB3 := Lib.hid (HBL.out.trans (X.prop.mono hz))
        have HT : Hid (P * 2 = labN lg l k l.length (i + 1)) := by
          show P * 2 = labN lg l k l.length i * 2 + if i < l.length ∧ edB lg (kl l i) k = true then 1 else 0
          rw [← HJ.out, if_neg (fun h => absurd h.1 hil), Nat.add_zero]
        clear hz d0
        go_wp2
        go_roundw
        case rel => exact ⟨i + 1, P * 2, by omega, by omega, by go_num, by go_num, HT.out, HB3.out⟩
        case measure => simp [intOf]; omega
    · obtain rfl : i = 7 := by omega
      have HQ := Lib.hid (congrArg (fun z : Nat => (z : Int)) HJ.out)
      go_wp2
      go_ret
      exact ⟨by rw [← HQ.out]; rfl, HCB.out⟩

theorem take_len {l : List Int} {i : Nat} (h : i ≤ l.length) : (l.take i).length = i := by rw [List.length_take]; omega

theorem lex_take (lg l : List Int) (v i : Nat) (h : i ≤ l.length) : lexN lg (l.take i) v (l.take i).length = lexN lg l v i := by
  rw [take_len h]
  exact lexN_congr _ _ _ _ _ fun j hj => kl_take hj

theorem lab_take (lg l : List Int) (a b i : Nat) (h : i ≤ l.length) (h7 : l.length ≤ 7) : labN lg (l.take i) b (l.take i).length 7 < labN lg (l.take i) a (l.take i).length 7 ↔ lexN lg l b i < lexN lg l a i := by
  rw [lab_less _ _ _ _ _ (by rw [take_len h]; omega), lex_take lg l b i h, lex_take lg l a i h]

end Go.Proofs.Ytcpchdnhhjhpaaa
