/- IsMinimalSeparator, SeparatorsOf. -/
import Derived.Test.YtfeepheckeplmabV8
import Derived.Test.YtfeepheckeplmabT1
import Derived.Test.YtfeepheckeplmabF1
import Derived.Deep.RegionHeld3
namespace Go.Proofs.Ytfeepheckeplmab
open Go.RowKit

/-- A part touches all of x. -/
def touB (n : Int) (l : List Int) (x p : Int) : Bool := decide (bits .and .i64 (aroundR n l p) x = x)

def sepC (n : Int) (l : List Int) (x : Int) (ps : List Int) : Nat → Nat
  | 0 => 0
  | k + 1 => sepC n l x ps k + (if touB n l x (nth ps k) = true then 1 else 0)

theorem sepC_le (n : Int) (l : List Int) (x : Int) (ps : List Int) (k : Nat) : sepC n l x ps k ≤ k := by
  induction k with
  | zero => simp [sepC]
  | succ k ih => unfold sepC; split <;> omega

/-- A minimal separator: without it two parts are left, at least, that touch all of it. -/
def SepS (n : Int) (l : List Int) (x : Int) : Prop := IsS n l x ∧ 2 ≤ sepC n l x (partsR n l (2 ^ n.toNat - 1 - x)) (partsR n l (2 ^ n.toNat - 1 - x)).length

instance (n : Int) (l : List Int) (x : Int) : Decidable (SepS n l x) := by unfold SepS; infer_instance

theorem aroundR_bd (n : Int) (l : List Int) (p : Int) : 0 ≤ aroundR n l p ∧ aroundR n l p < 128 := by
  unfold aroundR
  split
  · rename_i h
    obtain ⟨-, h2, -⟩ := h.nat
    have h1 := around_lt h.1 h2
    have := two_le l.length (by have := h.1.2.1; have := h.1.2.2.1; omega)
    omega
  · omega

theorem tou_not (n : Int) (l : List Int) (x p : Int) (h0 : 0 ≤ x) (h1 : x < 128) : (bits .andNot .i64 x (aroundR n l p) == 0) = touB n l x p := by
  obtain ⟨b0, b1⟩ := aroundR_bd n l p
  unfold touB
  rw [andNot_sub x _ h0 h1 b0 b1, and_comm' x]
  by_cases h : bits .and .i64 (aroundR n l p) x = x
  · rw [h]; simp
  · simp [h]; omega

set_option maxHeartbeats 4000000 in
set_option maxRecDepth 100000 in
theorem implSep (n : Int) (v : Value) (l : List Int) (x : Int) (w : World) (h : Ints w v l) :
    Calls Try.prog 28 #[.agg #[.int .i64 n, v], .int .i64 x] w (SaysB (SepS n l x) w) := by
  obtain ⟨a, cap, rfl, -, -⟩ := h.form
  have HA := argG' (T := 27) (n := n) h
  have HI := Lib.hid h
  clear h
  go_enter Try.func28, Try.ntmps28
  go_wp2_with fail
  refine (implIsSet n _ l x _ (HI.out.alloc _)).mono ?_
  rintro e w1 ⟨r, rfl, hr, hb⟩
  have HB := Lib.hid (hb.mono (B' := w.heap.size + 1) (by simp))
  clear hb
  cases r with
  | false =>
    obtain ⟨c0, c1, -, cB, -⟩ := HA.out _ HB.out
    have HN := Lib.hid (show ¬ IsS n l x by simpa using hr)
    have HCB := Lib.hid cB
    clear hr cB
    go_wp2
    go_ret
    exact SaysB.no (fun hg => HN.out hg.1) HCB.out
  | true =>
    have HG := Lib.hid (hr.1 rfl)
    have hzz := (HA.out _ HB.out).2.2.2.2
    have HST : Hid (∀ W, Below w1.heap.size w1 W → W.cell? ⟨w.heap.size, 0, none⟩ = some (.int .i64 n) ∧ W.cell? ⟨w.heap.size, 1, none⟩ = some (.slice a l.length cap) ∧ Ints W (.slice a l.length cap) l ∧ Below w.heap.size w W ∧ Below w1.heap.size w1 W) := fun W hW => by
      obtain ⟨c0, c1, cI, cB, -⟩ := HA.out W (HB.out.trans (hW.mono hzz))
      exact ⟨c0, c1, cI, cB, hW⟩
    obtain ⟨c0, c1, -, -, -⟩ := HST.out _ (Below.refl _ _)
    obtain ⟨M, eM⟩ : ∃ M : Int, M = 2 ^ n.toNat - 1 := ⟨_, rfl⟩
    have hx0 : 0 ≤ x := HG.out.2.1
    have hx1 : x < 128 := isS_small HG.out
    have e1 : bits .andNot .i64 M x = M - x := by rw [eM]; exact (rest_is HG.out).1
    obtain ⟨PS, hPS⟩ : ∃ PS, PS = partsR n l (M - x) := ⟨_, rfl⟩
    obtain ⟨L, hL⟩ : ∃ L, L = PS.length := ⟨_, rfl⟩
    have HP := Lib.hid (show SepS n l x ↔ 2 ≤ sepC n l x PS L by rw [hL, hPS, eM]; exact ⟨fun h => h.2, fun h => ⟨HG.out, h⟩⟩)
    have HC3 : Hid (∀ W, Ints W (.slice a l.length cap) l → Calls Try.prog 60 #[.agg #[.int .i64 n, .slice a l.length cap]] W fun e w' => e = .returned (.int .i64 M) ∧ Below W.heap.size W w') := fun W hI => by
      rw [eM]
      exact allVertices_is n _ l W hI HG.out.1.1 HG.out.1.2.1
    have HC2 : Hid (∀ W, Ints W (.slice a l.length cap) l → Calls Try.prog 59 #[.agg #[.int .i64 n, .slice a l.length cap], .int .i64 (M - x)] W fun e w' => ∃ ap capp, e = .returned (.slice ap L capp) ∧ Hid (Ints w' (.slice ap L capp) PS) ∧ Below W.heap.size W w') := fun W hI =>
      (implParts n _ l (M - x) W hI).mono fun e w' ⟨vp, he, ho, hb⟩ => by
        rw [← hPS] at ho
        obtain ⟨ap, capp, hv, -, -⟩ := ho.ints.form
        rw [← hL] at hv
        exact ⟨ap, capp, by rw [he, hv], by rw [← hv]; exact ho.ints, hb⟩
    have HLL := Lib.hid hL
    clear hr eM hPS hL hzz
    go_wp2
    go_region_held3 (fun W => W.cell? ⟨w.heap.size, 0, none⟩ = some (.int .i64 n) ∧ W.cell? ⟨w.heap.size, 1, none⟩ = some (.slice a l.length cap) ∧ Ints W (.slice a l.length cap) l ∧ Below w.heap.size w W ∧ Below w1.heap.size w1 W)
      (first | exact HST.out _ (Below.refl _ _).drew | exact HST.out _ (Below.refl _ _) | (go_split_ands; exact HST.out _ (btrans (by assumption) hb)))
      (first
        | (go_at_call 60; go_split_ands; refine (HC3.out _ (by assumption)).mono ?_; rintro e wz ⟨rfl, hb⟩)
        | (go_at_call 59; go_split_ands; refine (HC2.out _ (by assumption)).mono ?_; rintro e wz ⟨ap, capp, rfl, hpi, hb⟩))
    go_split_ands
    have HBZ := Lib.hid (show Below w1.heap.size w1 wz by assumption)
    obtain ⟨w3, hw3⟩ : ∃ w3, w3 = wz := ⟨_, rfl⟩
    rw [← hw3] at HBZ hpi ⊢
    have hmx : L ≤ maxLen := by
      obtain ⟨a', cap', hv, h1, h2⟩ := hpi.out.form
      rw [HLL.out]
      omega
    unfold maxLen at hmx
    clear e1 c0 c1 hw3
    go_wp2
    go_loopw [5, 19] (fun s i wr => ∃ j c : Nat, j ≤ L ∧ c ≤ j ∧ i = .int .i64 j ∧ s = .int .i64 c ∧ Hid (c = sepC n l x PS j) ∧ Below w3.heap.size w3 wr) (fun _ i _ => L - (intOf i).toNat)
    case atStart => exact ⟨0, 0, by omega, by omega, rfl, rfl, rfl, Below.refl _ _⟩
    case round =>
      obtain ⟨j, c, hj, hcj, rfl, rfl, HC, hbel⟩ := hrel
      obtain ⟨c0, c1, cI, cB, -⟩ := HST.out _ (HBZ.out.trans (hbel.mono HBZ.out.size))
      have HBL := Lib.hid hbel
      have HCI := Lib.hid cI
      have HCB := Lib.hid cB
      have HPI := Lib.hid (hpi.out.on hbel)
      clear hbel cI cB
      by_cases hlt : j < L
      · obtain ⟨bp, offp, capp', hv, _, _, hbk, hcell⟩ := HPI.out.pos (by rw [← HLL.out]; omega)
        rw [← HLL.out] at hv hcell
        simp only [Value.slice.injEq] at hv
        obtain ⟨rfl, -, rfl⟩ := hv
        have e0 := hcell j hlt
        obtain ⟨p, hp⟩ : ∃ p, p = nth PS j := ⟨_, rfl⟩
        rw [← hp] at e0
        have HT := Lib.hid (show sepC n l x PS (j + 1) = sepC n l x PS j + (if touB n l x p = true then 1 else 0) by rw [hp]; rfl)
        have q1 := tou_not n l x p hx0 hx1
        obtain ⟨A, hA⟩ : ∃ A, A = aroundR n l p := ⟨_, rfl⟩
        rw [← hA] at q1
        have HAA := Lib.hid hA
        obtain ⟨T, hT⟩ : ∃ T, T = bits .andNot .i64 x A := ⟨_, rfl⟩
        rw [← hT] at q1
        have hT' : bits .andNot .i64 x A = T := hT.symm
        clear hcell hp hA hT
        go_wp2_with fail
        refine (implAround n _ l p _ HCI.out).mono ?_
        rintro e w4 ⟨rfl, hb⟩
        rw [← HAA.out]
        have HB4 := Lib.hid (HBL.out.trans (hb.mono HBL.out.size))
        clear hb c0 c1 e0
        cases htb : touB n l x p with
        | true =>
          rw [htb] at q1
          have HC2 := Lib.hid (show c + 1 = sepC n l x PS (j + 1) by rw [HT.out, htb, HC.out]; simp)
          clear htb
          go_wp2
          go_roundw
          case rel => exact ⟨j + 1, c + 1, by omega, by omega, by go_num, by go_num, HC2, HB4.out⟩
          case measure => simp [intOf]; omega
        | false =>
          rw [htb] at q1
          have HC2 := Lib.hid (show c = sepC n l x PS (j + 1) by rw [HT.out, htb, HC.out]; simp)
          clear htb
          go_wp2
          go_roundw
          case rel => exact ⟨j + 1, c, by omega, by omega, by go_num, rfl, HC2, HB4.out⟩
          case measure => simp [intOf]; omega
      · obtain rfl : j = L := by omega
        go_wp2
        go_ret
        exact ⟨decide ((2 : Int) ≤ (c : Int)), by first | rfl | simp, by rw [HP.out, ← HC.out]; simp; omega, HCB.out⟩

set_option maxHeartbeats 4000000 in
set_option maxRecDepth 100000 in
theorem specSep (n : Int) (v : Value) (l : List Int) (x : Int) (w : World) (h : Ints w v l) :
    Calls Try.prog 27 #[.agg #[.int .i64 n, v], .int .i64 x] w (SaysB (SepS n l x) w) := by
  obtain ⟨a, cap, rfl, -, -⟩ := h.form
  have HA := argG' (T := 27) (n := n) h
  have HI := Lib.hid h
  clear h
  go_enter Try.func27, Try.ntmps27
  go_wp2_with fail
  refine (specIsSet n _ l x _ (HI.out.alloc _)).mono ?_
  rintro e w1 ⟨r, rfl, hr, hb⟩
  have HB := Lib.hid (hb.mono (B' := w.heap.size + 1) (by simp))
  clear hb
  cases r with
  | false =>
    obtain ⟨c0, c1, -, cB, -⟩ := HA.out _ HB.out
    have HN := Lib.hid (show ¬ IsS n l x by simpa using hr)
    have HCB := Lib.hid cB
    clear hr cB
    go_wp2
    go_ret
    exact SaysB.no (fun hg => HN.out hg.1) HCB.out
  | true =>
    have HG := Lib.hid (hr.1 rfl)
    have hzz := (HA.out _ HB.out).2.2.2.2
    have HST : Hid (∀ W, Below w1.heap.size w1 W → W.cell? ⟨w.heap.size, 0, none⟩ = some (.int .i64 n) ∧ W.cell? ⟨w.heap.size, 1, none⟩ = some (.slice a l.length cap) ∧ Ints W (.slice a l.length cap) l ∧ Below w.heap.size w W ∧ Below w1.heap.size w1 W) := fun W hW => by
      obtain ⟨c0, c1, cI, cB, -⟩ := HA.out W (HB.out.trans (hW.mono hzz))
      exact ⟨c0, c1, cI, cB, hW⟩
    obtain ⟨c0, c1, -, -, -⟩ := HST.out _ (Below.refl _ _)
    have hn1 := HG.out.1.1
    have hn7 := HG.out.1.2.1
    obtain ⟨-, -, -, s4, s5⟩ := shl_one n (by omega) hn7
    obtain ⟨N, eN, hN1, hN2⟩ : ∃ N, (2 : Int) ^ n.toNat = N ∧ 1 ≤ N ∧ N ≤ 128 := ⟨_, rfl, by omega, s4⟩
    have hx0 : 0 ≤ x := HG.out.2.1
    have hx1 : x < 128 := isS_small HG.out
    have g1 : IntKind.i64.wrap (1 * N) = N := IntWalk.i64_in _ (by omega) |>.trans (by omega)
    have g2 : IntKind.i64.wrap N = N := IntWalk.i64_in _ (by omega)
    have g3 : IntKind.i64.wrap (N - 1) = N - 1 := IntWalk.i64_in _ (by omega)
    have g4 : IntKind.i64.wrap (N - 1 - x) = N - 1 - x := IntWalk.i64_in _ (by omega)
    have hn0 : decide (n < 0) = false := decide_eq_false (by omega)
    obtain ⟨PS, hPS⟩ : ∃ PS, PS = partsR n l (N - 1 - x) := ⟨_, rfl⟩
    obtain ⟨L, hL⟩ : ∃ L, L = PS.length := ⟨_, rfl⟩
    have HP := Lib.hid (show SepS n l x ↔ 2 ≤ sepC n l x PS L by rw [hL, hPS, ← eN]; exact ⟨fun h => h.2, fun h => ⟨HG.out, h⟩⟩)
    have HC2 : Hid (∀ W, Ints W (.slice a l.length cap) l → Calls Try.prog 56 #[.agg #[.int .i64 n, .slice a l.length cap], .int .i64 (N - 1 - x)] W fun e w' => ∃ ap capp, e = .returned (.slice ap L capp) ∧ Hid (Ints w' (.slice ap L capp) PS) ∧ Below W.heap.size W w') := fun W hI =>
      (specParts n _ l (N - 1 - x) W hI).mono fun e w' ⟨vp, he, ho, hb⟩ => by
        rw [← hPS] at ho
        obtain ⟨ap, capp, hv, -, -⟩ := ho.ints.form
        rw [← hL] at hv
        exact ⟨ap, capp, by rw [he, hv], by rw [← hv]; exact ho.ints, hb⟩
    have HLL := Lib.hid hL
    clear hr hPS hL hzz s4 s5
    go_wp2
    go_region_held3 (fun W => W.cell? ⟨w.heap.size, 0, none⟩ = some (.int .i64 n) ∧ W.cell? ⟨w.heap.size, 1, none⟩ = some (.slice a l.length cap) ∧ Ints W (.slice a l.length cap) l ∧ Below w.heap.size w W ∧ Below w1.heap.size w1 W)
      (first | exact HST.out _ (Below.refl _ _).drew | exact HST.out _ (Below.refl _ _) | (go_split_ands; exact HST.out _ (btrans (by assumption) hb)))
      (first
        | (go_at_call 56; go_split_ands; refine (HC2.out _ (by assumption)).mono ?_; rintro e wz ⟨ap, capp, rfl, hpi, hb⟩))
    go_split_ands
    have HBZ := Lib.hid (show Below w1.heap.size w1 wz by assumption)
    obtain ⟨w3, hw3⟩ : ∃ w3, w3 = wz := ⟨_, rfl⟩
    rw [← hw3] at HBZ hpi ⊢
    have hmx : L ≤ maxLen := by
      obtain ⟨a', cap', hv, h1, h2⟩ := hpi.out.form
      rw [HLL.out]
      omega
    unfold maxLen at hmx
    clear g1 g2 g3 g4 hn0 c0 c1 eN hw3
    go_wp2
    go_loopw [6, 7] (fun s i wr => ∃ j c : Nat, j ≤ L ∧ c ≤ j ∧ i = .int .i64 j ∧ s = .int .i64 c ∧ Hid (c = sepC n l x PS j) ∧ Below w3.heap.size w3 wr) (fun _ i _ => L - (intOf i).toNat)
    case atStart => exact ⟨0, 0, by omega, by omega, rfl, rfl, rfl, Below.refl _ _⟩
    case round =>
      obtain ⟨j, c, hj, hcj, rfl, rfl, HC, hbel⟩ := hrel
      obtain ⟨-, -, -, cB, -⟩ := HST.out _ (HBZ.out.trans (hbel.mono HBZ.out.size))
      have HBL := Lib.hid hbel
      have HCB := Lib.hid cB
      clear hbel cB
      by_cases hlt : j < L
      · obtain ⟨bp, offp, capp', hv, _, hmk, hbk, -⟩ := (hpi.out.on HBL.out).pos (by rw [← HLL.out]; omega)
        rw [← HLL.out] at hv
        simp only [Value.slice.injEq] at hv
        obtain ⟨rfl, -, rfl⟩ := hv
        obtain ⟨p, hp⟩ : ∃ p, p = nth PS j := ⟨_, rfl⟩
        have HX : Hid (∀ Y : Since wr, (Y.val.cell? ⟨w.heap.size, 0, none⟩ = some (.int .i64 n) ∧ Y.val.cell? ⟨w.heap.size, 1, none⟩ = some (.slice a l.length cap) ∧ Ints Y.val (.slice a l.length cap) l) ∧ Y.val.cell? ⟨bp, offp + j, none⟩ = some (.int .i64 p)) := fun Y => by
          obtain ⟨d0, d1, d2, -, -⟩ := HST.out _ (HBZ.out.trans ((HBL.out.trans (Y.prop.mono HBL.out.size)).mono HBZ.out.size))
          refine ⟨⟨d0, d1, d2⟩, ?_⟩
          obtain ⟨bp', offp', capp'', hv', _, _, _, hcell⟩ := ((hpi.out.on HBL.out).on Y.prop).pos (by rw [← HLL.out]; omega)
          simp only [Value.slice.injEq, Option.some.injEq, Addr.mk.injEq, and_true] at hv'
          obtain ⟨⟨rfl, rfl⟩, -, -⟩ := hv'
          rw [hcell j (by rw [← HLL.out]; exact hlt), hp]
        have hx0' : ∀ Y : Since wr, Y.val.cell? ⟨w.heap.size, 0, none⟩ = some (.int .i64 n) := fun Y => (HX.out Y).1.1
        have hx1' : ∀ Y : Since wr, Y.val.cell? ⟨w.heap.size, 1, none⟩ = some (.slice a l.length cap) := fun Y => (HX.out Y).1.2.1
        have hx2' : ∀ Y : Since wr, Y.val.cell? ⟨bp, offp + j, none⟩ = some (.int .i64 p) := fun Y => (HX.out Y).2
        have HT := Lib.hid (show sepC n l x PS (j + 1) = sepC n l x PS j + (if touB n l x p = true then 1 else 0) by rw [hp]; rfl)
        obtain ⟨A, hA⟩ : ∃ A, A = aroundR n l p := ⟨_, rfl⟩
        have HC1 : Hid (∀ Y : Since wr, Calls Try.prog 57 #[.agg #[.int .i64 n, .slice a l.length cap], .int .i64 p] Y.val fun e w' => e = .returned (.int .i64 A) ∧ Below Y.val.heap.size Y.val w') := fun Y => by rw [hA]; exact specAround n _ l p _ (HX.out Y).1.2.2
        obtain ⟨T, hT⟩ : ∃ T, T = bits .and .i64 A x := ⟨_, rfl⟩
        have hT' : bits .and .i64 A x = T := hT.symm
        have HTB := Lib.hid (show touB n l x p = true ↔ T = x by unfold touB; rw [hT, hA]; simp)
        unfold maxLen at hmk
        clear hp hA hT
        go_wp2
        refine wp_region_since (by kernel_rfl) (by kernel_rfl) ?_
        by_cases htb : T = x
        · have q1 : (T == x) = true := by simp [htb]
          have HC2 := Lib.hid (show c + 1 = sepC n l x PS (j + 1) by rw [HT.out, HTB.out.2 htb, HC.out]; simp)
          clear htb
          repeat (go_big_quiet_step (exact since_call (HC1.out _)))
          refine wpQuiet_nil ?_
          intro Y
          have HB4 := Lib.hid (HBL.out.trans (Y.prop.mono HBL.out.size))
          clear hx0' hx1' hx2' hT'
          go_wp2
          go_roundw
          case rel => exact ⟨j + 1, c + 1, by omega, by omega, by go_num, by go_num, HC2, HB4.out⟩
          case measure => simp [intOf]; omega
        · have q1 : (T == x) = false := by simp [htb]
          have HC2 := Lib.hid (show c = sepC n l x PS (j + 1) by rw [HT.out, if_neg (fun h => htb (HTB.out.1 h)), HC.out]; rfl)
          clear htb
          repeat (go_big_quiet_step (exact since_call (HC1.out _)))
          refine wpQuiet_nil ?_
          intro Y
          have HB4 := Lib.hid (HBL.out.trans (Y.prop.mono HBL.out.size))
          clear hx0' hx1' hx2' hT'
          go_wp2
          go_roundw
          case rel => exact ⟨j + 1, c, by omega, by omega, by go_num, rfl, HC2, HB4.out⟩
          case measure => simp [intOf]; omega
      · obtain rfl : j = L := by omega
        go_wp2
        go_ret
        exact ⟨decide ((2 : Int) ≤ (c : Int)), by first | rfl | simp, by rw [HP.out, ← HC.out]; simp; omega, HCB.out⟩

def sepB (n : Int) (l : List Int) (x : Nat) : Bool := decide (SepS n l (x : Int))

set_option maxHeartbeats 2000000 in
set_option maxRecDepth 100000 in
theorem specSeps (n : Int) (v : Value) (l : List Int) (w : World) (h : Ints w v l) :
    Calls Try.prog 29 #[.agg #[.int .i64 n, v]] w (GetsI w.heap.size w (famR n l (sepB n l))) := by
  obtain ⟨a, cap, rfl, -, -⟩ := h.form
  obtain ⟨i0, hi, hi0, hi1, hi2⟩ := info_parts infoInt
  have HA := argG' (T := 27) (n := n) h
  clear h
  by_cases hg : IsG n l
  · have HG := Lib.hid hg
    have hn1 := hg.1
    have hn7 := hg.2.1
    obtain ⟨F, hF⟩ : ∃ F, F = 2 ^ l.length := ⟨_, rfl⟩
    obtain ⟨N, eN, hN0⟩ : ∃ N, (2 : Int) ^ n.toNat = N ∧ N = (F : Int) := ⟨_, rfl, by rw [hF]; exact (full_cast hg).2.2.2.1⟩
    have hF2 : F ≤ 128 := by rw [hF]; exact (full_cast hg).2.1
    have hF1 : 0 < F := by rw [hF]; exact (full_cast hg).2.2.1
    have HN := Lib.hid (show famR n l (sepB n l) = famL (sepB n l) F by unfold famR; rw [if_pos hg, hF])
    have HZ := Lib.hid (show famL (sepB n l) 0 = [] by rfl)
    subst hN0
    have q6 : IntKind.i64.wrap (1 * (F : Int)) = (F : Int) := IntWalk.i64_in _ (by omega) |>.trans (by omega)
    clear hg hF
    go_enter Try.func29, Try.ntmps29
    go_wp2
    go_loopw [3, 4] (fun s i wr => ∃ k : Nat, k ≤ F ∧ i = .int .i64 k ∧ OwnI (w.heap.size + 1) wr s (famL (sepB n l) k) ∧ Below (w.heap.size + 1) (w.alloc (.cells #[.int .i64 n, .slice a l.length cap] 27)) wr) (fun _ i _ => F - (intOf i).toNat)
    case atStart =>
      refine ⟨0, by omega, rfl, ?_, (Below.refl _ _).alloc (by simp) _⟩
      have := OwnI.lit0 (w.alloc (.cells #[.int .i64 n, .slice a l.length cap] 27)) (w.heap.size + 1) (by simp)
      rw [HZ.out]
      simpa using this
    case round =>
      obtain ⟨k, hk, rfl, ho, hbel⟩ := hrel
      obtain ⟨c0, c1, cI, cB, hz⟩ := HA.out _ hbel
      have HO := Lib.hid ho
      have HBL := Lib.hid hbel
      have HCI := Lib.hid cI
      have HCB := Lib.hid cB
      clear ho hbel cI cB
      go_wp2_with fail
      refine (specIsG_any n _ l _ HCI.out).mono ?_
      rintro e wa ⟨r, rfl, hr, hb⟩
      obtain rfl : r = true := hr.2 HG.out
      have HO2 := Lib.hid (HO.out.on hb)
      have HB2 := Lib.hid (HBL.out.trans (hb.mono hz))
      clear hb hr c0 c1 hz HCI HCB
      obtain ⟨c0, c1, cI, cB, hz⟩ := HA.out _ HB2.out
      have HCI := Lib.hid cI
      have HCB2 := Lib.hid cB
      clear cI cB
      by_cases hlt : k < F
      · have HS := Lib.hid (famL_succ (sepB n l) k)
        have HL := Lib.hid (famL_length (sepB n l) k)
        go_wp2_with fail
        refine ((specSep n _ l k _ HCI.out).mono fun _ _ h => h.dec).mono ?_
        rintro e wb ⟨rfl, hb⟩
        have HO3 := Lib.hid (HO2.out.on hb)
        have HB3 := Lib.hid (HB2.out.trans (hb.mono hz))
        clear hb c0 c1 hz
        obtain ⟨-, -, -, -, hz⟩ := HA.out _ HB3.out
        by_cases hs : SepS n l k
        · have HT := Lib.hid (show famL (sepB n l) (k + 1) = famL (sepB n l) k ++ [(k : Int)] by rw [HS.out]; simp [sepB, hs])
          have d1 : decide (SepS n l k) = true := by simp [hs]
          rw [d1]
          clear hs d1
          go_wp2_with (at_builtin; refine wpList_append_int rfl (.tmp 20) (.tmp 22) 22 rfl (w.heap.size + 1) i0 Try.underlying22 hi hi0 hi1 hi2 _ _ rfl HO3.out (k : Int) (by omega) (by omega) rfl (by have := HL.out; omega) hz ?_)
          intro v' w4 ho4 hg4 hv4
          have HO4 := Lib.hid ho4
          have HB4 := Lib.hid ((HB3.out.alloc hz (.cells #[.int .i64 (k : Int)] 3)).grown hg4 (by simp; omega) (fun k hk => (HO3.out.lt k hk).1))
          clear ho4 hg4
          go_wp2
          go_roundw
          case rel => exact ⟨k + 1, by omega, by go_num, by rw [HT.out]; exact HO4.out, HB4.out⟩
          case measure => simp [intOf]; omega
        · have HT := Lib.hid (show famL (sepB n l) (k + 1) = famL (sepB n l) k by rw [HS.out]; simp [sepB, hs])
          have d1 : decide (SepS n l k) = false := by simp [hs]
          rw [d1]
          clear hs d1
          go_wp2
          go_roundw
          case rel => exact ⟨k + 1, by omega, by go_num, by rw [HT.out]; exact HO3.out, HB3.out⟩
          case measure => simp [intOf]; omega
      · obtain rfl : k = F := by omega
        go_wp2
        go_ret
        exact ⟨_, rfl, by rw [HN.out]; exact HO2.out.mono (by omega), HCB2.out⟩
  · have HNO := Lib.hid hg
    have HN := Lib.hid (show famR n l (sepB n l) = [] by unfold famR; rw [if_neg hg])
    clear hg
    go_enter Try.func29, Try.ntmps29
    go_wp2
    go_loopw [3, 4] (fun s i wr => i = .int .i64 0 ∧ s = .slice (some ⟨w.heap.size + 1, 0, none⟩) 0 0 ∧ OwnI (w.heap.size + 1) wr (.slice (some ⟨w.heap.size + 1, 0, none⟩) 0 0) [] ∧ Below (w.heap.size + 1) (w.alloc (.cells #[.int .i64 n, .slice a l.length cap] 27)) wr) (fun _ _ _ => 0)
    case atStart =>
      refine ⟨rfl, by simp, ?_, (Below.refl _ _).alloc (by simp) _⟩
      have := OwnI.lit0 (w.alloc (.cells #[.int .i64 n, .slice a l.length cap] 27)) (w.heap.size + 1) (by simp)
      simpa using this
    case round =>
      obtain ⟨rfl, rfl, ho, hbel⟩ := hrel
      obtain ⟨c0, c1, cI, cB, hz⟩ := HA.out _ hbel
      have HO := Lib.hid ho
      have HCI := Lib.hid cI
      have HCB := Lib.hid cB
      clear ho hbel cI cB
      go_wp2_with fail
      refine (specIsG_any n _ l _ HCI.out).mono ?_
      rintro e wa ⟨r, rfl, hr, hb⟩
      obtain rfl : r = false := by
        cases r with
        | false => rfl
        | true => exact absurd (hr.1 rfl) HNO.out
      have HO2 := Lib.hid (HO.out.on hb)
      have HCB2 := Lib.hid (HCB.out.trans (hb.mono HCB.out.size))
      clear hb hr
      go_wp2
      go_ret
      exact ⟨_, rfl, by rw [HN.out]; exact HO2.out.mono (by omega), HCB2.out⟩


set_option maxHeartbeats 2000000 in
set_option maxRecDepth 100000 in
theorem implSeps (n : Int) (v : Value) (l : List Int) (w : World) (h : Ints w v l) :
    Calls Try.prog 30 #[.agg #[.int .i64 n, v]] w (GetsI w.heap.size w (famR n l (sepB n l))) := by
  obtain ⟨a, cap, rfl, -, -⟩ := h.form
  obtain ⟨i0, hi, hi0, hi1, hi2⟩ := info_parts infoInt
  have HA := argG' (T := 27) (n := n) h
  have HI := Lib.hid h
  clear h
  go_enter Try.func30, Try.ntmps30
  go_wp2_with fail
  refine (implIsG_any n _ l _ (HI.out.alloc _)).mono ?_
  rintro e w1 ⟨q, rfl, hq, hb⟩
  have HB := Lib.hid (hb.mono (B' := w.heap.size + 1) (by simp))
  have HR := Lib.hid hq
  clear hb hq
  obtain ⟨c0, c1, cI, cB, hz⟩ := HA.out _ HB.out
  have HCI := Lib.hid cI
  have HCB := Lib.hid cB
  clear cI cB
  cases q with
  | false =>
    have HN := Lib.hid (show famR n l (sepB n l) = [] by unfold famR; rw [if_neg (fun h => absurd (HR.out.2 h) (by decide))])
    go_wp2
    go_ret
    exact ⟨_, rfl, by rw [HN.out]; exact OwnI.nil0 _ _, HCB.out⟩
  | true =>
    have HG := Lib.hid (HR.out.1 rfl)
    have HN := Lib.hid (show famR n l (sepB n l) = famL (sepB n l) (2 ^ l.length) by unfold famR; rw [if_pos HG.out])
    obtain ⟨F, hF⟩ : ∃ F, F = 2 ^ l.length := ⟨_, rfl⟩
    obtain ⟨M, hM⟩ : ∃ M : Int, M = 2 ^ n.toNat - 1 := ⟨_, rfl⟩
    have hf1 : M + 1 = (F : Int) := by rw [hM, hF]; exact (full_cast HG.out).1
    have hf2 : F ≤ 128 := by rw [hF]; exact (full_cast HG.out).2.1
    rw [← hF] at HN
    have HM := Lib.hid hM
    clear hF hM
    go_wp2_with fail
    refine (allVertices_is n _ l _ HCI.out HG.out.1 HG.out.2.1).mono ?_
    rintro e w2 ⟨rfl, hb⟩
    rw [← HM.out]
    have HB2 := Lib.hid (HB.out.trans (hb.mono hz))
    clear hb c0 c1 hz HCI HCB
    go_wp2
    clear hf1
    go_loopw [3, 11] (fun s i wr => ∃ k : Nat, k ≤ F ∧ i = .int .i64 k ∧ OwnI (w.heap.size + 1) wr s (famL (sepB n l) k) ∧ Below (w.heap.size + 1) (w.alloc (.cells #[.int .i64 n, .slice a l.length cap] 27)) wr) (fun _ i _ => F - (intOf i).toNat)
    case atStart => exact ⟨0, by omega, rfl, OwnI.nil0 _ _, HB2.out⟩
    case round =>
      obtain ⟨k, hk, rfl, ho, hbel⟩ := hrel
      obtain ⟨c0, c1, cI, cB, hz⟩ := HA.out _ hbel
      have HO := Lib.hid ho
      have HBL := Lib.hid hbel
      have HCB := Lib.hid cB
      have HCI := Lib.hid cI
      clear ho hbel cI cB
      by_cases hlt : k < F
      · have HS := Lib.hid (famL_succ (sepB n l) k)
        have HL := Lib.hid (famL_length (sepB n l) k)
        go_wp2_with fail
        refine ((implSep n _ l k _ HCI.out).mono fun _ _ h => h.dec).mono ?_
        rintro e w3 ⟨rfl, hb⟩
        have HO3 := Lib.hid (HO.out.on hb)
        have HB3 := Lib.hid (HBL.out.trans (hb.mono hz))
        clear hb c0 c1 hz
        obtain ⟨-, -, -, -, hz⟩ := HA.out _ HB3.out
        by_cases hs : SepS n l k
        · have HT := Lib.hid (show famL (sepB n l) (k + 1) = famL (sepB n l) k ++ [(k : Int)] by rw [HS.out]; simp [sepB, hs])
          have d1 : decide (SepS n l k) = true := by simp [hs]
          rw [d1]
          clear hs d1
          go_wp2_with (at_builtin; refine wpList_append_int rfl (.tmp 17) (.tmp 19) 22 rfl (w.heap.size + 1) i0 Try.underlying22 hi hi0 hi1 hi2 _ _ rfl HO3.out (k : Int) (by omega) (by omega) rfl (by have := HL.out; omega) hz ?_)
          intro v' w4 ho4 hg4 hv4
          have HO4 := Lib.hid ho4
          have HB4 := Lib.hid ((HB3.out.alloc hz (.cells #[.int .i64 (k : Int)] 3)).grown hg4 (by simp; omega) (fun k hk => (HO3.out.lt k hk).1))
          clear ho4 hg4
          go_wp2
          go_roundw
          case rel => exact ⟨k + 1, by omega, by go_num, by rw [HT.out]; exact HO4.out, HB4.out⟩
          case measure => simp [intOf]; omega
        · have HT := Lib.hid (show famL (sepB n l) (k + 1) = famL (sepB n l) k by rw [HS.out]; simp [sepB, hs])
          have d1 : decide (SepS n l k) = false := by simp [hs]
          rw [d1]
          clear hs d1
          go_wp2
          go_roundw
          case rel => exact ⟨k + 1, by omega, by go_num, by rw [HT.out]; exact HO3.out, HB3.out⟩
          case measure => simp [intOf]; omega
      · obtain rfl : k = F := by omega
        go_wp2
        go_ret
        exact ⟨_, rfl, by rw [HN.out]; exact HO.out.mono (by omega), HCB.out⟩

end Go.Proofs.Ytfeepheckeplmab
