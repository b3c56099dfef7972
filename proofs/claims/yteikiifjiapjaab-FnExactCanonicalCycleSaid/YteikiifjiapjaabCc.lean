/- CanonicalCycle. -/
import Derived.Test.YteikiifjiapjaabM3
import Derived.Test.YteikiifjiapjaabL1
import Derived.Test.YteikiifjiapjaabG8
import Derived.Test.YteikiifjiapjaabQ
import Derived.BigRegion
namespace Go.Proofs.Yteikiifjiapjaab
set_option linter.unusedVariables false
set_option linter.unusedSimpArgs false
open Go.RowKit

/-- The first place of the least of the first i. -/
def kM (l : List Int) : Nat → Nat
  | 0 => 0
  | i + 1 => if nth l i < nth l (kM l i) then i else kM l i

theorem kM_lt (l : List Int) (h : 0 < l.length) : ∀ i, i ≤ l.length → kM l i < l.length
  | 0, _ => h
  | i + 1, hi => by
    unfold kM
    split
    · omega
    · exact kM_lt l h i (by omega)

theorem kM_le (l : List Int) : ∀ i, ∀ j, j < i → nth l (kM l i) ≤ nth l j
  | 0, _, h => absurd h (by omega)
  | i + 1, j, h => by
    unfold kM
    rcases Nat.lt_or_ge j i with h1 | h1
    · have := kM_le l i j h1
      split <;> omega
    · obtain rfl : j = i := by omega
      split <;> omega

theorem kM_first (l : List Int) : ∀ i, ∀ j, j < kM l i → nth l (kM l i) < nth l j
  | 0, _, h => absurd h (by simp [kM])
  | i + 1, j, h => by
    unfold kM at h ⊢
    split at h
    · rename_i hc
      rw [if_pos hc]
      have := kM_le l i j h
      omega
    · rename_i hc
      rw [if_neg hc]
      exact kM_first l i j h

theorem kM_one (l : List Int) : kM l 1 = 0 := by simp [kM]

/-- Which place of the list comes at place i. -/
def canI (l : List Int) (i : Nat) : Nat :=
  if nth l ((kM l l.length + 1) % l.length) ≤ nth l ((kM l l.length + l.length - 1) % l.length) then (kM l l.length + i) % l.length else (kM l l.length + l.length - i) % l.length

def canL (l : List Int) (i : Nat) : List Int := (List.range i).map fun j => nth l (canI l j)

def canR (l : List Int) : List Int := if l.length < 3 ∨ 20 < l.length then l else canL l l.length

theorem canL_succ (l : List Int) (i : Nat) : canL l (i + 1) = canL l i ++ [nth l (canI l i)] := by simp [canL, List.range_succ]

theorem canL_length (l : List Int) (i : Nat) : (canL l i).length = i := by simp [canL]

theorem canI_lt (l : List Int) (i : Nat) (h : 0 < l.length) : canI l i < l.length := by
  unfold canI
  split <;> exact Nat.mod_lt _ h

theorem mod_back (k i n : Nat) (hn : 1 ≤ n) (hi : i < n) : (k + i * (n - 1)) % n = (k + n - i) % n := by
  rcases Nat.eq_zero_or_pos i with h | h
  · subst h; simp
  · have h1 : i * (n - 1) + i = i * n := by
      obtain ⟨m, rfl⟩ : ∃ m, n = m + 1 := ⟨n - 1, by omega⟩
      rw [Nat.add_sub_cancel, Nat.mul_succ]
    have h2 : (i - 1) * n + n = i * n := by
      obtain ⟨m, rfl⟩ : ∃ m, i = m + 1 := ⟨i - 1, by omega⟩
      rw [Nat.add_sub_cancel, Nat.succ_mul]
    have h3 : k + i * (n - 1) = (k + n - i) + (i - 1) * n := by omega
    rw [h3, Nat.add_mul_mod_self_right]

theorem canR_len (l : List Int) : (canR l).length = l.length := by
  unfold canR
  split
  · rfl
  · exact canL_length l _

set_option maxHeartbeats 4000000 in
set_option maxRecDepth 100000 in
theorem specCan (v : Value) (l : List Int) (w : World) (h : Ints w v l) (hnil : v = .slice none 0 0 ∨ ∃ ad cap, v = .slice (some ad) l.length cap) (hlen : l.length ≤ 1048576) :
    Calls Try.prog 16 #[v] w (GetsI w.heap.size w (canR l)) := by
  obtain ⟨i0, hi, hz0, hz1, hz2⟩ := info_parts infoInt
  have HNIL := Lib.hid hnil
  obtain ⟨al, capl, rfl, hcl, hml⟩ := h.form
  have HL := Lib.hid h
  unfold maxLen at hml
  obtain ⟨R, hR⟩ : ∃ R, R = canR l := ⟨_, rfl⟩
  have HR := Lib.hid hR
  rw [← hR]
  have HE := Lib.hid (OwnI.lit0 w w.heap.size (Nat.le_refl _))
  have HB0 := Lib.hid ((Below.refl w.heap.size w).alloc (Nat.le_refl _) (.cells #[] 3))
  clear h hR hnil
  go_enter Try.func16, Try.ntmps16
  by_cases hsm : l.length < 3 ∨ 20 < l.length
  · have HN := Lib.hid (show R = l by rw [HR.out]; unfold canR; rw [if_pos hsm])
    by_cases h3 : l.length < 3
    · have d0 : decide ((l.length : Int) < 3) = true := decide_eq_true (by omega)
      clear hsm h3
      go_wp2_with (at_builtin; refine wpList_append_ints rfl (.tmp 17) (.tmp 18) 22 rfl w.heap.size i0 Try.underlying22 hi hz0 hz1 hz2 _ [] rfl HE.out _ l rfl (HL.out.alloc _) HNIL.out (by simp; omega) (by simp) ?_)
      intro v1 w1 ho1 hg1 hne1
      have HO1 := Lib.hid (show OwnI w.heap.size w1 v1 l from ho1)
      have HW := Lib.hid (HB0.out.grown hg1 (by simp) (fun q hq => (HE.out.lt q hq).1))
      clear ho1 hg1 hne1
      go_wp2
      go_ret
      exact ⟨_, rfl, by rw [HN.out]; exact HO1.out, HW.out⟩
    · have d0 : decide ((l.length : Int) < 3) = false := decide_eq_false (by omega)
      have d1 : decide ((l.length : Int) > 20) = true := decide_eq_true (by omega)
      have d2 : decide ((20 : Int) < (l.length : Int)) = true := decide_eq_true (by omega)
      clear hsm h3
      go_wp2_with (at_builtin; refine wpList_append_ints rfl (.tmp 17) (.tmp 18) 22 rfl w.heap.size i0 Try.underlying22 hi hz0 hz1 hz2 _ [] rfl HE.out _ l rfl (HL.out.alloc _) HNIL.out (by simp; omega) (by simp) ?_)
      intro v1 w1 ho1 hg1 hne1
      have HO1 := Lib.hid (show OwnI w.heap.size w1 v1 l from ho1)
      have HW := Lib.hid (HB0.out.grown hg1 (by simp) (fun q hq => (HE.out.lt q hq).1))
      clear ho1 hg1 hne1
      go_wp2
      go_ret
      exact ⟨_, rfl, by rw [HN.out]; exact HO1.out, HW.out⟩
  · have h3 : 3 ≤ l.length := by omega
    have h20 : l.length ≤ 20 := by omega
    have d0 : decide ((l.length : Int) < 3) = false := decide_eq_false (by omega)
    have d1 : decide ((l.length : Int) > 20) = false := decide_eq_false (by omega)
    have d2 : decide ((20 : Int) < (l.length : Int)) = false := decide_eq_false (by omega)
    have HN := Lib.hid (show R = canL l l.length by rw [HR.out]; unfold canR; rw [if_neg hsm])
    obtain ⟨b, off, capl', hv, -, -, hb, hcell⟩ := HL.out.pos (by omega)
    simp only [Value.slice.injEq] at hv
    obtain ⟨rfl, -, rfl⟩ := hv
    obtain ⟨w0, hw0⟩ : ∃ w0, w0 = w.alloc (.cells #[] 3) := ⟨_, rfl⟩
    rw [← hw0] at HE HB0
    have HC := Lib.hid hcell
    clear hsm hcell
    go_wp2
    rw [← hw0]
    clear d0 d1 d2 hw0
    go_loopw [4, 5] (fun k x wr => ∃ i : Nat, i ≤ l.length ∧ x = .int .i64 i ∧ k = .int .i64 (kM l i : Nat) ∧ Below w0.heap.size w0 wr) (fun _ x _ => l.length - (intOf x).toNat)
    case atStart => exact ⟨0, by omega, rfl, rfl, Below.refl _ _⟩
    case round =>
      obtain ⟨i, hile, rfl, rfl, hbel⟩ := hrel
      have HBL := Lib.hid hbel
      clear hbel
      by_cases hlt : i < l.length
      · have hkl := kM_lt l (by omega) i hile
        obtain ⟨K, hK⟩ : ∃ K, K = kM l i := ⟨_, rfl⟩
        rw [← hK] at hkl ⊢
        obtain ⟨x, hx⟩ : ∃ x, x = nth l i := ⟨_, rfl⟩
        obtain ⟨y, hy⟩ : ∃ y, y = nth l K := ⟨_, rfl⟩
        have HX : Hid (∀ X : Since wr, Below w.heap.size w X.val) := fun X => HB0.out.trans ((HBL.out.trans (X.prop.mono HBL.out.size)).mono HB0.out.size)
        have hx0 : ∀ X : Since wr, X.val.cell? ⟨b, off + i, none⟩ = some (.int .i64 x) := fun X => by rw [(HX.out X).cell (p := ⟨b, off + i, none⟩) hb, HC.out i hlt, hx]
        have hx1 : ∀ X : Since wr, X.val.cell? ⟨b, off + K, none⟩ = some (.int .i64 y) := fun X => by rw [(HX.out X).cell (p := ⟨b, off + K, none⟩) hb, HC.out K hkl, hy]
        have HKS := Lib.hid (show kM l (i + 1) = if x < y then i else K by rw [hx, hy, hK]; rfl)
        clear hx hy hK
        go_wp2
        refine wp_region_since (by kernel_rfl) (by kernel_rfl) ?_
        by_cases hxy : x < y
        · have q0 : decide (x < y) = true := decide_eq_true hxy
          have HN2 := Lib.hid (show kM l (i + 1) = i by rw [HKS.out, if_pos hxy])
          clear hxy
          repeat (go_big_quiet_step (fail))
          refine wpQuiet_nil ?_
          intro X
          have HB2 := Lib.hid (HBL.out.trans (X.prop.mono HBL.out.size))
          clear hx0 hx1
          go_wp2
          go_roundw
          case rel => exact ⟨i + 1, by omega, by go_num, by rw [HN2.out], HB2.out⟩
          case measure => simp [intOf]; omega
        · have q0 : decide (x < y) = false := decide_eq_false hxy
          have HN2 := Lib.hid (show kM l (i + 1) = K by rw [HKS.out, if_neg hxy])
          clear hxy
          repeat (go_big_quiet_step (fail))
          refine wpQuiet_nil ?_
          intro X
          have HB2 := Lib.hid (HBL.out.trans (X.prop.mono HBL.out.size))
          clear hx0 hx1
          go_wp2
          go_roundw
          case rel => exact ⟨i + 1, by omega, by go_num, by rw [HN2.out], HB2.out⟩
          case measure => simp [intOf]; omega
      · obtain rfl : i = l.length := by omega
        have hkl := kM_lt l (by omega) l.length (Nat.le_refl _)
        obtain ⟨K, hK⟩ : ∃ K, K = kM l l.length := ⟨_, rfl⟩
        rw [← hK] at hkl ⊢
        have HK := Lib.hid hK
        clear hK
        have HE1 := Lib.hid (HE.out.on HBL.out)
        have HB1 := Lib.hid (HB0.out.trans (HBL.out.mono HB0.out.size))
        obtain ⟨n1, hn1⟩ : ∃ x, x = (K + 1) % l.length := ⟨_, rfl⟩
        obtain ⟨n2, hn2⟩ : ∃ x, x = (K + l.length - 1) % l.length := ⟨_, rfl⟩
        have hn1l : n1 < l.length := by rw [hn1]; exact Nat.mod_lt _ (by omega)
        have hn2l : n2 < l.length := by rw [hn2]; exact Nat.mod_lt _ (by omega)
        obtain ⟨P1, hP1⟩ : ∃ x : Int, x = (K : Int) + 1 := ⟨_, rfl⟩
        obtain ⟨P2, hP2⟩ : ∃ x : Int, x = (K : Int) + (l.length : Int) := ⟨_, rfl⟩
        obtain ⟨P3, hP3⟩ : ∃ x : Int, x = P2 - 1 := ⟨_, rfl⟩
        have e1 : IntKind.i64.wrap ((K : Int) + 1) = P1 := (IntWalk.i64_in _ (by omega)).trans hP1.symm
        have e2 : IntKind.i64.wrap ((K : Int) + (l.length : Int)) = P2 := (IntWalk.i64_in _ (by omega)).trans hP2.symm
        have e3 : IntKind.i64.wrap (P2 - 1) = P3 := (IntWalk.i64_in _ (by omega)).trans hP3.symm
        have m1 : Int.tmod P1 (l.length : Int) = (n1 : Int) := by
          have : P1 = ((K + 1 : Nat) : Int) := by omega
          rw [this, hn1]; rfl
        have m1' : P1 % (l.length : Int) = (n1 : Int) := by
          have : P1 = ((K + 1 : Nat) : Int) := by omega
          rw [this, hn1]; rfl
        have m3 : Int.tmod P3 (l.length : Int) = (n2 : Int) := by
          have : P3 = ((K + l.length - 1 : Nat) : Int) := by omega
          rw [this, hn2]; rfl
        have m3' : P3 % (l.length : Int) = (n2 : Int) := by
          have : P3 = ((K + l.length - 1 : Nat) : Int) := by omega
          rw [this, hn2]; rfl
        have z0 : ((l.length : Int) == 0) = false := by rw [beq_eq_false_iff_ne]; omega
        obtain ⟨A, hA⟩ : ∃ A, A = nth l n1 := ⟨_, rfl⟩
        obtain ⟨D, hD⟩ : ∃ D, D = nth l n2 := ⟨_, rfl⟩
        have HAI : Hid (∀ i, canI l i = if A ≤ D then (K + i) % l.length else (K + l.length - i) % l.length) := fun i => by
          unfold canI
          rw [← HK.out, ← hn1, ← hn2, ← hA, ← hD]
        have HCA := Lib.hid (show nth l n1 = A from hA.symm)
        have HCD := Lib.hid (show nth l n2 = D from hD.symm)
        have hP2' : P2 = (K : Int) + (l.length : Int) := hP2
        clear hn1 hn2 hA hD hP1 hP3 hile hlt HE HBL HB0
        obtain ⟨wo, rfl⟩ : ∃ wo, wo = wr := ⟨_, rfl⟩
        go_wp2
        go_loopw [3, 7] (fun s x wr => ∃ i : Nat, i ≤ l.length ∧ x = .int .i64 i ∧ Hid (OwnI w.heap.size wr s (canL l i)) ∧ Below w.heap.size w wr) (fun _ x _ => l.length - (intOf x).toNat)
        case atStart => exact ⟨0, by omega, rfl, HE1.out, HB1.out⟩
        case round =>
          clear HE1 HB1
          obtain ⟨i, hile, rfl, HO, hbel⟩ := hrel
          have HBL := Lib.hid hbel
          clear hbel
          by_cases hlt : i < l.length
          · have HX : Hid (∀ X : Since wr, Below w.heap.size w X.val) := fun X => HBL.out.trans (X.prop.mono HBL.out.size)
            have hx0 : ∀ X : Since wr, X.val.cell? ⟨b, off + n1, none⟩ = some (.int .i64 A) := fun X => by rw [(HX.out X).cell (p := ⟨b, off + n1, none⟩) hb, HC.out n1 hn1l, HCA.out]
            have hx1 : ∀ X : Since wr, X.val.cell? ⟨b, off + n2, none⟩ = some (.int .i64 D) := fun X => by rw [(HX.out X).cell (p := ⟨b, off + n2, none⟩) hb, HC.out n2 hn2l, HCD.out]
            have HPH := Lib.hid hP2'
            clear hP2' hP2
            go_wp2
            refine wp_region_since (by kernel_rfl) (by kernel_rfl) ?_
            by_cases hAD : A ≤ D
            · have q0 : decide (A ≤ D) = true := decide_eq_true hAD
              repeat (go_big_quiet_step (fail))
              refine wpQuiet_nil ?_
              intro X
              have HB3 := Lib.hid (HX.out X)
              have HO3 := Lib.hid (HO.out.on X.prop)
              obtain ⟨wx, hwx⟩ : ∃ wx, wx = X.val := ⟨_, rfl⟩
              rw [← hwx] at HB3 HO3 ⊢
              clear hwx hx0 hx1
              obtain ⟨p, hp⟩ : ∃ p, p = (K + i) % l.length := ⟨_, rfl⟩
              have hpl : p < l.length := by rw [hp]; exact Nat.mod_lt _ (by omega)
              have HCI := Lib.hid (show canI l i = p by rw [HAI.out, if_pos hAD, hp])
              have e4 : IntKind.i64.wrap ((K : Int) + (i : Int)) = ((K + i : Nat) : Int) := (IntWalk.i64_in _ (by omega)).trans (by push_cast; rfl)
              obtain ⟨Q1, hQ1⟩ : ∃ x : Int, x = ((K + i : Nat) : Int) := ⟨_, rfl⟩
              rw [← hQ1] at e4
              have m4 : Int.tmod Q1 (l.length : Int) = (p : Int) := by rw [hQ1, hp]; rfl
              have m4' : Q1 % (l.length : Int) = (p : Int) := by rw [hQ1, hp]; rfl
              clear hQ1
              obtain ⟨y, hy⟩ : ∃ y, y = nth l p := ⟨_, rfl⟩
              have e5 := (HB3.out.cell (p := ⟨b, off + p, none⟩) hb).trans (HC.out p hpl)
              rw [← hy] at e5
              have hyb := nth_in HL.out.1 p
              rw [← hy] at hyb
              have HY := Lib.hid hy
              have hll : (canL l i).length + 1 ≤ 1000000000 := by rw [canL_length]; omega
              have hzx : w.heap.size ≤ wx.heap.size := HB3.out.size
              clear hp hy hAD
              go_wp2_with (at_builtin; refine wpList_append_int rfl (.tmp 60) (.tmp 69) 22 rfl w.heap.size i0 Try.underlying22 hi hz0 hz1 hz2 _ (canL l i) rfl HO3.out y hyb.1 hyb.2 rfl hll hzx ?_)
              intro v7 w7 ho7 hg7 hne7
              have HO7 := Lib.hid (show OwnI w.heap.size w7 v7 (canL l (i + 1)) by rw [canL_succ, HCI.out, ← HY.out]; exact ho7)
              have HB7 := Lib.hid ((HB3.out.alloc hzx (.cells #[.int .i64 y] 3)).grown hg7 (by rw [World.size_alloc]; omega) (fun q hq => (HO3.out.lt q hq).1))
              clear ho7 hg7 hne7
              go_wp2
              go_roundw
              case rel => exact ⟨i + 1, by omega, by go_num, HO7.out, HB7.out⟩
              case measure => simp [intOf]; omega
            · have q0 : decide (A ≤ D) = false := decide_eq_false hAD
              repeat (go_big_quiet_step (fail))
              refine wpQuiet_nil ?_
              intro X
              have HB3 := Lib.hid (HX.out X)
              have HO3 := Lib.hid (HO.out.on X.prop)
              obtain ⟨wx, hwx⟩ : ∃ wx, wx = X.val := ⟨_, rfl⟩
              rw [← hwx] at HB3 HO3 ⊢
              clear hwx hx0 hx1
              have hP2' := HPH.out
              obtain ⟨p, hp⟩ : ∃ p, p = (K + l.length - i) % l.length := ⟨_, rfl⟩
              have hpl : p < l.length := by rw [hp]; exact Nat.mod_lt _ (by omega)
              have HCI := Lib.hid (show canI l i = p by rw [HAI.out, if_neg hAD, hp])
              obtain ⟨Q1, hQ1⟩ : ∃ x : Int, x = ((K + l.length - i : Nat) : Int) := ⟨_, rfl⟩
              have e4 : IntKind.i64.wrap (P2 - (i : Int)) = Q1 := (IntWalk.i64_in _ (by omega)).trans (by omega)
              have m4 : Int.tmod Q1 (l.length : Int) = (p : Int) := by rw [hQ1, hp]; rfl
              have m4' : Q1 % (l.length : Int) = (p : Int) := by rw [hQ1, hp]; rfl
              clear hQ1 hP2'
              obtain ⟨y, hy⟩ : ∃ y, y = nth l p := ⟨_, rfl⟩
              have e5 := (HB3.out.cell (p := ⟨b, off + p, none⟩) hb).trans (HC.out p hpl)
              rw [← hy] at e5
              have hyb := nth_in HL.out.1 p
              rw [← hy] at hyb
              have HY := Lib.hid hy
              have hll : (canL l i).length + 1 ≤ 1000000000 := by rw [canL_length]; omega
              have hzx : w.heap.size ≤ wx.heap.size := HB3.out.size
              clear hp hy hAD
              go_wp2_with (at_builtin; refine wpList_append_int rfl (.tmp 71) (.tmp 82) 22 rfl w.heap.size i0 Try.underlying22 hi hz0 hz1 hz2 _ (canL l i) rfl HO3.out y hyb.1 hyb.2 rfl hll hzx ?_)
              intro v7 w7 ho7 hg7 hne7
              have HO7 := Lib.hid (show OwnI w.heap.size w7 v7 (canL l (i + 1)) by rw [canL_succ, HCI.out, ← HY.out]; exact ho7)
              have HB7 := Lib.hid ((HB3.out.alloc hzx (.cells #[.int .i64 y] 3)).grown hg7 (by rw [World.size_alloc]; omega) (fun q hq => (HO3.out.lt q hq).1))
              clear ho7 hg7 hne7
              go_wp2
              go_roundw
              case rel => exact ⟨i + 1, by omega, by go_num, HO7.out, HB7.out⟩
              case measure => simp [intOf]; omega
          · obtain rfl : i = l.length := by omega
            clear hP2' hP2
            go_wp2
            go_ret
            exact ⟨_, rfl, by rw [HN.out]; exact HO.out, HBL.out⟩

end Go.Proofs.Yteikiifjiapjaab
