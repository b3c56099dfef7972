/- IsPrime, TwinsOf. -/
import Derived.Test.YtfeepheckeplmabM9
import Derived.Test.YtfeepheckeplmabQ
import Derived.Deep.RegionHeld3
namespace Go.Proofs.Ytfeepheckeplmab
open Go.RowKit

/-- At least four vertices, and no modules but one vertex and all. -/
def PrimP (n : Int) (l : List Int) : Prop := IsG n l ∧ 4 ≤ n ∧ ((famR n l (modB n l)).length : Int) = n + 1

instance (n : Int) (l : List Int) : Decidable (PrimP n l) := by unfold PrimP; infer_instance

set_option maxHeartbeats 2000000 in
set_option maxRecDepth 100000 in
theorem specPrime (n : Int) (v : Value) (l : List Int) (w : World) (h : Ints w v l) :
    Calls Try.prog 37 #[.agg #[.int .i64 n, v]] w (SaysB (PrimP n l) w) := by
  obtain ⟨a, cap, rfl, -, -⟩ := h.form
  have HA := argG' (T := 27) (n := n) h
  obtain ⟨w0, hw0⟩ : ∃ w0, w0 = w.alloc (.cells #[.int .i64 n, .slice a l.length cap] 27) := ⟨_, rfl⟩
  have HST : Hid (∀ W, Below w0.heap.size w0 W → W.cell? ⟨w.heap.size, 0, none⟩ = some (.int .i64 n) ∧ W.cell? ⟨w.heap.size, 1, none⟩ = some (.slice a l.length cap) ∧ Ints W (.slice a l.length cap) l ∧ Below w.heap.size w W ∧ Below w0.heap.size w0 W) := fun W hW => by
    obtain ⟨c0, c1, cI, cB, -⟩ := HA.out W (by rw [← hw0]; exact hW.mono (by rw [hw0]; simp))
    exact ⟨c0, c1, cI, cB, hW⟩
  clear h
  by_cases hg : IsG n l
  · have hn7 := hg.2.1
    have hn1 := hg.1
    have HC1 : Hid (∀ W, Ints W (.slice a l.length cap) l → Calls Try.prog 48 #[.agg #[.int .i64 n, .slice a l.length cap]] W fun e w' => e = .returned (.bool true) ∧ Below W.heap.size W w') := fun W hI =>
      (specIsG_any n _ l W hI).mono fun e w' ⟨r, he, hr, hb⟩ => ⟨by rw [he, hr.2 hg], hb⟩
    by_cases h4 : 4 ≤ n
    · have d4 : decide (4 ≤ n) = true := by simp [h4]
      have u1 : IntKind.i64.wrap (n + 1) = n + 1 := IntWalk.i64_in _ (by omega)
      obtain ⟨L, hL⟩ : ∃ L, L = (famR n l (modB n l)).length := ⟨_, rfl⟩
      have HP := Lib.hid (show PrimP n l ↔ (L : Int) = n + 1 from ⟨fun h => by rw [hL]; exact h.2.2, fun h => ⟨hg, h4, by rw [← hL]; exact h⟩⟩)
      have HC2 : Hid (∀ W, Ints W (.slice a l.length cap) l → Calls Try.prog 35 #[.agg #[.int .i64 n, .slice a l.length cap]] W fun e w' => ∃ ap capp, e = .returned (.slice ap L capp) ∧ Below W.heap.size W w') := fun W hI =>
        (specMods n _ l W hI).mono fun e w' ⟨vp, he, ho, hb⟩ => by
          obtain ⟨ap, capp, hv, -, -⟩ := ho.ints.form
          exact ⟨ap, capp, by rw [he, hv, hL], hb⟩
      clear hg hL
      go_enter Try.func37, Try.ntmps37
      go_wp2
      rw [← hw0]
      clear hw0
      go_region_held3 (fun W => W.cell? ⟨w.heap.size, 0, none⟩ = some (.int .i64 n) ∧ W.cell? ⟨w.heap.size, 1, none⟩ = some (.slice a l.length cap) ∧ Ints W (.slice a l.length cap) l ∧ Below w.heap.size w W ∧ Below w0.heap.size w0 W)
        (first | exact HST.out _ (Below.refl _ _).drew | exact HST.out _ (Below.refl _ _) | (go_split_ands; exact HST.out _ (btrans (by assumption) hb)))
        (first
          | (go_at_call 48; go_split_ands; refine (HC1.out _ (by assumption)).mono ?_; rintro e wz ⟨rfl, hb⟩)
          | (go_at_call 35; go_split_ands; refine (HC2.out _ (by assumption)).mono ?_; rintro e wz ⟨ap, capp, rfl, hb⟩))
      go_split_ands
      have HW := Lib.hid (show Below w.heap.size w wz by assumption)
      go_wp2
      go_ret
      exact ⟨((L : Int) == n + 1), by first | rfl | simp, by rw [HP.out]; simp, HW.out⟩
    · have d4 : decide (4 ≤ n) = false := by simp; omega
      have HN := Lib.hid (show ¬ PrimP n l from fun h => h4 h.2.1)
      clear hg
      go_enter Try.func37, Try.ntmps37
      go_wp2
      rw [← hw0]
      clear hw0
      have hc0 : ∀ X : Since w0, X.val.cell? ⟨w.heap.size, 0, none⟩ = some (.int .i64 n) := fun X => (HST.out _ X.prop).1
      have hc1 : ∀ X : Since w0, X.val.cell? ⟨w.heap.size, 1, none⟩ = some (.slice a l.length cap) := fun X => (HST.out _ X.prop).2.1
      have HDI : Hid (∀ X : Since w0, Ints X.val (.slice a l.length cap) l) := fun X => (HST.out _ X.prop).2.2.1
      refine wp_region_since (by kernel_rfl) (by kernel_rfl) ?_
      repeat (go_big_quiet_step (exact since_call (HC1.out _ (HDI.out _))))
      refine wpQuiet_nil ?_
      intro X
      have HW := Lib.hid (HST.out _ X.prop).2.2.2.1
      clear hc0 hc1
      go_wp2
      go_ret
      exact SaysB.no HN.out HW.out
  · have HN := Lib.hid (show ¬ PrimP n l from fun h => hg h.1)
    have HC1 : Hid (∀ W, Ints W (.slice a l.length cap) l → Calls Try.prog 48 #[.agg #[.int .i64 n, .slice a l.length cap]] W fun e w' => e = .returned (.bool false) ∧ Below W.heap.size W w') := fun W hI =>
      (specIsG_any n _ l W hI).mono fun e w' ⟨r, he, hr, hb⟩ => ⟨by rw [he]; cases r <;> simp_all, hb⟩
    clear hg
    go_enter Try.func37, Try.ntmps37
    go_wp2
    rw [← hw0]
    clear hw0
    have hc0 : ∀ X : Since w0, X.val.cell? ⟨w.heap.size, 0, none⟩ = some (.int .i64 n) := fun X => (HST.out _ X.prop).1
    have hc1 : ∀ X : Since w0, X.val.cell? ⟨w.heap.size, 1, none⟩ = some (.slice a l.length cap) := fun X => (HST.out _ X.prop).2.1
    have HDI : Hid (∀ X : Since w0, Ints X.val (.slice a l.length cap) l) := fun X => (HST.out _ X.prop).2.2.1
    refine wp_region_since (by kernel_rfl) (by kernel_rfl) ?_
    repeat (go_big_quiet_step (exact since_call (HC1.out _ (HDI.out _))))
    refine wpQuiet_nil ?_
    intro X
    have HW := Lib.hid (HST.out _ X.prop).2.2.2.1
    clear hc0 hc1
    go_wp2
    go_ret
    exact SaysB.no HN.out HW.out

set_option maxHeartbeats 2000000 in
set_option maxRecDepth 100000 in
theorem implPrime (n : Int) (v : Value) (l : List Int) (w : World) (h : Ints w v l) :
    Calls Try.prog 38 #[.agg #[.int .i64 n, v]] w (SaysB (PrimP n l) w) := by
  obtain ⟨a, cap, rfl, -, -⟩ := h.form
  have HA := argG' (T := 27) (n := n) h
  obtain ⟨w0, hw0⟩ : ∃ w0, w0 = w.alloc (.cells #[.int .i64 n, .slice a l.length cap] 27) := ⟨_, rfl⟩
  have HST : Hid (∀ W, Below w0.heap.size w0 W → W.cell? ⟨w.heap.size, 0, none⟩ = some (.int .i64 n) ∧ W.cell? ⟨w.heap.size, 1, none⟩ = some (.slice a l.length cap) ∧ Ints W (.slice a l.length cap) l ∧ Below w.heap.size w W ∧ Below w0.heap.size w0 W) := fun W hW => by
    obtain ⟨c0, c1, cI, cB, -⟩ := HA.out W (by rw [← hw0]; exact hW.mono (by rw [hw0]; simp))
    exact ⟨c0, c1, cI, cB, hW⟩
  clear h
  by_cases hg : IsG n l
  · have hn7 := hg.2.1
    have hn1 := hg.1
    have HC1 : Hid (∀ W, Ints W (.slice a l.length cap) l → Calls Try.prog 50 #[.agg #[.int .i64 n, .slice a l.length cap]] W fun e w' => e = .returned (.bool true) ∧ Below W.heap.size W w') := fun W hI =>
      (implIsG_any n _ l W hI).mono fun e w' ⟨r, he, hr, hb⟩ => ⟨by rw [he, hr.2 hg], hb⟩
    by_cases h4 : 4 ≤ n
    · have d4 : decide (4 ≤ n) = true := by simp [h4]
      have u1 : IntKind.i64.wrap (n + 1) = n + 1 := IntWalk.i64_in _ (by omega)
      obtain ⟨L, hL⟩ : ∃ L, L = (famR n l (modB n l)).length := ⟨_, rfl⟩
      have HP := Lib.hid (show PrimP n l ↔ (L : Int) = n + 1 from ⟨fun h => by rw [hL]; exact h.2.2, fun h => ⟨hg, h4, by rw [← hL]; exact h⟩⟩)
      have HC2 : Hid (∀ W, Ints W (.slice a l.length cap) l → Calls Try.prog 36 #[.agg #[.int .i64 n, .slice a l.length cap]] W fun e w' => ∃ ap capp, e = .returned (.slice ap L capp) ∧ Below W.heap.size W w') := fun W hI =>
        (implMods n _ l W hI).mono fun e w' ⟨vp, he, ho, hb⟩ => by
          obtain ⟨ap, capp, hv, -, -⟩ := ho.ints.form
          exact ⟨ap, capp, by rw [he, hv, hL], hb⟩
      clear hg hL
      go_enter Try.func38, Try.ntmps38
      go_wp2
      rw [← hw0]
      clear hw0
      go_region_held3 (fun W => W.cell? ⟨w.heap.size, 0, none⟩ = some (.int .i64 n) ∧ W.cell? ⟨w.heap.size, 1, none⟩ = some (.slice a l.length cap) ∧ Ints W (.slice a l.length cap) l ∧ Below w.heap.size w W ∧ Below w0.heap.size w0 W)
        (first | exact HST.out _ (Below.refl _ _).drew | exact HST.out _ (Below.refl _ _) | (go_split_ands; exact HST.out _ (btrans (by assumption) hb)))
        (first
          | (go_at_call 50; go_split_ands; refine (HC1.out _ (by assumption)).mono ?_; rintro e wz ⟨rfl, hb⟩)
          | (go_at_call 36; go_split_ands; refine (HC2.out _ (by assumption)).mono ?_; rintro e wz ⟨ap, capp, rfl, hb⟩))
      go_split_ands
      have HW := Lib.hid (show Below w.heap.size w wz by assumption)
      go_wp2
      go_ret
      exact ⟨((L : Int) == n + 1), by first | rfl | simp, by rw [HP.out]; simp, HW.out⟩
    · have d4 : decide (4 ≤ n) = false := by simp; omega
      have HN := Lib.hid (show ¬ PrimP n l from fun h => h4 h.2.1)
      clear hg
      go_enter Try.func38, Try.ntmps38
      go_wp2
      rw [← hw0]
      clear hw0
      have hc0 : ∀ X : Since w0, X.val.cell? ⟨w.heap.size, 0, none⟩ = some (.int .i64 n) := fun X => (HST.out _ X.prop).1
      have hc1 : ∀ X : Since w0, X.val.cell? ⟨w.heap.size, 1, none⟩ = some (.slice a l.length cap) := fun X => (HST.out _ X.prop).2.1
      have HDI : Hid (∀ X : Since w0, Ints X.val (.slice a l.length cap) l) := fun X => (HST.out _ X.prop).2.2.1
      refine wp_region_since (by kernel_rfl) (by kernel_rfl) ?_
      repeat (go_big_quiet_step (exact since_call (HC1.out _ (HDI.out _))))
      refine wpQuiet_nil ?_
      intro X
      have HW := Lib.hid (HST.out _ X.prop).2.2.2.1
      clear hc0 hc1
      go_wp2
      go_ret
      exact SaysB.no HN.out HW.out
  · have HN := Lib.hid (show ¬ PrimP n l from fun h => hg h.1)
    have HC1 : Hid (∀ W, Ints W (.slice a l.length cap) l → Calls Try.prog 50 #[.agg #[.int .i64 n, .slice a l.length cap]] W fun e w' => e = .returned (.bool false) ∧ Below W.heap.size W w') := fun W hI =>
      (implIsG_any n _ l W hI).mono fun e w' ⟨r, he, hr, hb⟩ => ⟨by rw [he]; cases r <;> simp_all, hb⟩
    clear hg
    go_enter Try.func38, Try.ntmps38
    go_wp2
    rw [← hw0]
    clear hw0
    have hc0 : ∀ X : Since w0, X.val.cell? ⟨w.heap.size, 0, none⟩ = some (.int .i64 n) := fun X => (HST.out _ X.prop).1
    have hc1 : ∀ X : Since w0, X.val.cell? ⟨w.heap.size, 1, none⟩ = some (.slice a l.length cap) := fun X => (HST.out _ X.prop).2.1
    have HDI : Hid (∀ X : Since w0, Ints X.val (.slice a l.length cap) l) := fun X => (HST.out _ X.prop).2.2.1
    refine wp_region_since (by kernel_rfl) (by kernel_rfl) ?_
    repeat (go_big_quiet_step (exact since_call (HC1.out _ (HDI.out _))))
    refine wpQuiet_nil ?_
    intro X
    have HW := Lib.hid (HST.out _ X.prop).2.2.2.1
    clear hc0 hc1
    go_wp2
    go_ret
    exact SaysB.no HN.out HW.out

/-- The vertices below k that are a module together with v. -/
def twN (n : Int) (l : List Int) (v : Nat) : Nat → Nat
  | 0 => 0
  | k + 1 => if k ≠ v ∧ ModS n l ((2 ^ v ||| 2 ^ k : Nat) : Int) then twN n l v k + 2 ^ k else twN n l v k

theorem twN_lt (n : Int) (l : List Int) (v k : Nat) : twN n l v k < 2 ^ k := by
  induction k with
  | zero => simp [twN]
  | succ k ih =>
    unfold twN
    rw [Nat.pow_succ]
    split <;> omega

def TwOk (n : Int) (l : List Int) (x : Int) : Prop := IsG n l ∧ 0 ≤ x ∧ x < n

instance (n : Int) (l : List Int) (x : Int) : Decidable (TwOk n l x) := by unfold TwOk; infer_instance

def twinsR (n : Int) (l : List Int) (x : Int) : Int := if TwOk n l x then ((twN n l x.toNat l.length : Nat) : Int) else 0

theorem or_fresh (k s : Nat) (hk : k < 7) (hs : s < 2 ^ k) : bits .or .i64 (s : Int) ((2 ^ k : Nat) : Int) = ((s + 2 ^ k : Nat) : Int) := by
  have : ∀ (k : Fin 7) (s : Fin 128), s.val < 2 ^ k.val → bits .or .i64 ((s.val : Nat) : Int) ((2 ^ k.val : Nat) : Int) = ((s.val + 2 ^ k.val : Nat) : Int) := by decide +kernel
  have h7 : (2 : Nat) ^ k ≤ 128 := two_le k (by omega)
  exact this ⟨k, hk⟩ ⟨s, by omega⟩ hs

set_option maxHeartbeats 2000000 in
set_option maxRecDepth 100000 in
theorem specTwins_no (n : Int) (v : Value) (l : List Int) (x : Int) (w : World) (h : Ints w v l) (hno : ¬ TwOk n l x) :
    Calls Try.prog 33 #[.agg #[.int .i64 n, v], .int .i64 x] w (SaysN (twinsR n l x) w) := by
  obtain ⟨a, cap, rfl, -, -⟩ := h.form
  have HA := argG' (T := 27) (n := n) h
  have HI := Lib.hid h
  have HN := Lib.hid (show twinsR n l x = 0 by unfold twinsR; rw [if_neg hno])
  have HN0 := Lib.hid hno
  clear h hno
  go_enter Try.func33, Try.ntmps33
  go_wp2_with fail
  refine (specIsG_any n _ l _ (HI.out.alloc _)).mono ?_
  rintro e w1 ⟨r, rfl, hr, hb⟩
  have HB := Lib.hid (hb.mono (B' := w.heap.size + 1) (by simp))
  have HR := Lib.hid hr
  clear hb hr
  obtain ⟨c0, c1, cI, cB, hz⟩ := HA.out _ HB.out
  have HCI := Lib.hid cI
  have HCB := Lib.hid cB
  clear cI cB
  cases r with
  | false =>
    go_wp2
    go_ret
    exact ⟨by rw [HN.out]; rfl, HCB.out⟩
  | true =>
    by_cases hx0 : x < 0
    · have dx : decide (x < 0) = true := decide_eq_true hx0
      go_wp2
      go_ret
      exact ⟨by rw [HN.out]; rfl, HCB.out⟩
    · have dx : decide (x < 0) = false := decide_eq_false hx0
      have hx1 : n ≤ x := by
        rcases Int.lt_or_le x n with h | h
        · exact absurd ⟨HR.out.1 rfl, by omega, h⟩ HN0.out
        · exact h
      have dy : decide (n ≤ x) = true := decide_eq_true hx1
      go_wp2
      go_ret
      exact ⟨by rw [HN.out]; rfl, HCB.out⟩

set_option maxHeartbeats 4000000 in
set_option maxRecDepth 100000 in
theorem specTwins_yes (n : Int) (v : Value) (l : List Int) (x : Int) (w : World) (h : Ints w v l) (hok : TwOk n l x) :
    Calls Try.prog 33 #[.agg #[.int .i64 n, v], .int .i64 x] w (SaysN (twinsR n l x) w) := by
  obtain ⟨a, cap, rfl, -, -⟩ := h.form
  have HA := argG' (T := 27) (n := n) h
  have HI := Lib.hid h
  have HN := Lib.hid (show twinsR n l x = ((twN n l x.toNat l.length : Nat) : Int) by unfold twinsR; rw [if_pos hok])
  obtain ⟨hg, x0, x1⟩ := hok
  obtain ⟨X, rfl⟩ := Int.eq_ofNat_of_zero_le x0
  rw [Int.toNat_natCast] at HN
  have HG := Lib.hid hg
  have hn7 := hg.2.1
  have hnl := hg.2.2.1
  have hl7 : l.length ≤ 7 := by omega
  have hle : (l.length : Int) ≤ n := by omega
  have hge : n ≤ (l.length : Int) := by omega
  have hX7 : X < 7 := by omega
  clear h hg hnl
  go_enter Try.func33, Try.ntmps33
  go_wp2_with fail
  refine (specIsG_any n _ l _ (HI.out.alloc _)).mono ?_
  rintro e w1 ⟨r, rfl, hr, hb⟩
  obtain rfl : r = true := hr.2 HG.out
  have HB := Lib.hid (hb.mono (B' := w.heap.size + 1) (by simp))
  clear hb hr
  obtain ⟨c0, c1, cI, -, hz⟩ := HA.out _ HB.out
  have HCI := Lib.hid cI
  clear cI
  have dx : decide ((X : Int) < 0) = false := decide_eq_false (by omega)
  have dy : decide (n ≤ (X : Int)) = false := decide_eq_false (by omega)
  have HB2 := HB
  go_wp2
  clear c0 c1 hz dx dy HCI
  go_loopw [5, 6] (fun s i wr => ∃ k S : Nat, k ≤ l.length ∧ S < 2 ^ k ∧ i = .int .i64 k ∧ s = .int .i64 S ∧ Hid (S = twN n l X k) ∧ Below (w.heap.size + 1) (w.alloc (.cells #[.int .i64 n, .slice a l.length cap] 27)) wr) (fun _ i _ => l.length - (intOf i).toNat)
  case atStart => exact ⟨0, 0, by omega, by simp, rfl, rfl, rfl, HB2.out⟩
  case round =>
    obtain ⟨k, S, hk, hS, rfl, rfl, HS, hbel⟩ := hrel
    obtain ⟨c0, c1, -, cB, hz⟩ := HA.out _ hbel
    have HBL := Lib.hid hbel
    have HCB := Lib.hid cB
    clear hbel cB
    by_cases hlt : k < l.length
    · have hkn : (k : Int) < n := by omega
      have d1 : decide ((k : Int) < n) = true := by simp [hkn]
      have HX : Hid (∀ Y : Since wr, ArgG 27 w n (.slice a l.length cap) l Y.val) := fun Y => HA.out _ (HBL.out.trans (Y.prop.mono hz))
      have hx0 : ∀ Y : Since wr, Y.val.cell? ⟨w.heap.size, 0, none⟩ = some (.int .i64 n) := fun Y => (HX.out Y).1
      have hx1 : ∀ Y : Since wr, Y.val.cell? ⟨w.heap.size, 1, none⟩ = some (.slice a l.length cap) := fun Y => (HX.out Y).2.1
      obtain ⟨P, hP⟩ : ∃ P, P = 2 ^ X := ⟨_, rfl⟩
      obtain ⟨Q, hQ⟩ : ∃ Q, Q = 2 ^ k := ⟨_, rfl⟩
      have eP : (2 : Int) ^ X = (P : Int) := by rw [hP]; push_cast; rfl
      have eQ : (2 : Int) ^ k = (Q : Int) := by rw [hQ]; push_cast; rfl
      have hP7 : P < 128 := by rw [hP]; exact Nat.pow_lt_pow_right (n := 7) (by omega) (by omega)
      have hQ7 : Q < 128 := by rw [hQ]; exact Nat.pow_lt_pow_right (n := 7) (by omega) (by omega)
      have g1 : IntKind.i64.wrap (1 * (P : Int)) = P := IntWalk.i64_in _ (by omega) |>.trans (by omega)
      have g2 : IntKind.i64.wrap (P : Int) = P := IntWalk.i64_in _ (by omega)
      have g3 : IntKind.i64.wrap (1 * (Q : Int)) = Q := IntWalk.i64_in _ (by omega) |>.trans (by omega)
      have g4 : IntKind.i64.wrap (Q : Int) = Q := IntWalk.i64_in _ (by omega)
      have hSF : S < 128 := by have := two_le k (by omega); omega
      have g5 : IntKind.i64.wrap ((S : Int) + (Q : Int)) = ((S + Q : Nat) : Int) := (IntWalk.i64_in _ (by omega)).trans (by omega)
      have g6 : bits .or .i64 (S : Int) (Q : Int) = ((S + Q : Nat) : Int) := by rw [hQ]; exact or_fresh k S (by omega) hS
      have hSQ : S + Q < 2 ^ (k + 1) := by rw [Nat.pow_succ, ← hQ]; rw [← hQ] at hS; omega
      obtain ⟨R, hR⟩ : ∃ R, R = (P ||| Q) := ⟨_, rfl⟩
      have e1 : bits .or .i64 (P : Int) (Q : Int) = (R : Int) := by rw [hR]; exact (bits_nat P Q hP7 hQ7).2
      have HRR := Lib.hid (show R = (2 ^ X ||| 2 ^ k) by rw [hR, hP, hQ])
      have HQQ := Lib.hid hQ
      have HTS := Lib.hid (show twN n l X (k + 1) = if k ≠ X ∧ ModS n l (R : Int) then twN n l X k + Q else twN n l X k by rw [hQ, HRR.out]; rfl)
      have hS2 : S < 2 ^ (k + 1) := by rw [Nat.pow_succ]; omega
      have HS2 := Lib.hid hS2
      have HSQ := Lib.hid hSQ
      clear hP hQ hR hS hS2 hSQ
      by_cases hkx : k = X
      · have q1 : ((k : Int) == (X : Int)) = true := by simp [hkx]
        have q2 : ((k : Int) != (X : Int)) = false := by simp [hkx]
        have HT := Lib.hid (show S = twN n l X (k + 1) by rw [HTS.out, if_neg (fun h => h.1 hkx)]; exact HS.out)
        have HKX := Lib.hid hkx
        clear hkx
        go_wp2
        refine wp_region_since (by kernel_rfl) (by kernel_rfl) ?_
        repeat (go_big_quiet_step (fail))
        refine wpQuiet_nil ?_
        intro Y
        have HB3 := Lib.hid (HBL.out.trans (Y.prop.mono hz))
        clear hx0 hx1 e1 eP eQ g1 g2 g3 g4 g6
        go_wp2
        go_roundw
        case rel => exact ⟨k + 1, S, by omega, HS2.out, by go_num, rfl, HT, HB3.out⟩
        case measure => simp [intOf]; omega
      · have q1 : ((k : Int) == (X : Int)) = false := by simp; omega
        have q2 : ((k : Int) != (X : Int)) = true := by simp; omega
        by_cases hm : ModS n l (R : Int)
        · have HC1 : Hid (∀ Y : Since wr, Calls Try.prog 31 #[.agg #[.int .i64 n, .slice a l.length cap], .int .i64 R] Y.val fun e w' => e = .returned (.bool true) ∧ Below Y.val.heap.size Y.val w') := fun Y => (specMod n _ l R _ (HX.out Y).2.2.1).mono fun _ _ h => h.is_yes hm
          have HT := Lib.hid (show S + Q = twN n l X (k + 1) by rw [HTS.out, if_pos ⟨hkx, hm⟩, HS.out])
          clear hkx hm
          go_wp2
          refine wp_region_since (by kernel_rfl) (by kernel_rfl) ?_
          repeat (go_big_quiet_step (exact since_call (HC1.out _)))
          refine wpQuiet_nil ?_
          intro Y
          have HB3 := Lib.hid (HBL.out.trans (Y.prop.mono hz))
          clear hx0 hx1 e1 eP g1 g2
          go_wp2
          go_roundw
          case rel => exact ⟨k + 1, S + Q, by omega, HSQ.out, by go_num, by first | rfl | go_num, HT, HB3.out⟩
          case measure => simp [intOf]; omega
        · have HC1 : Hid (∀ Y : Since wr, Calls Try.prog 31 #[.agg #[.int .i64 n, .slice a l.length cap], .int .i64 R] Y.val fun e w' => e = .returned (.bool false) ∧ Below Y.val.heap.size Y.val w') := fun Y => (specMod n _ l R _ (HX.out Y).2.2.1).mono fun _ _ h => h.is_no hm
          have HT := Lib.hid (show S = twN n l X (k + 1) by rw [HTS.out, if_neg (fun h => hm h.2)]; exact HS.out)
          clear hkx hm
          go_wp2
          refine wp_region_since (by kernel_rfl) (by kernel_rfl) ?_
          repeat (go_big_quiet_step (exact since_call (HC1.out _)))
          refine wpQuiet_nil ?_
          intro Y
          have HB3 := Lib.hid (HBL.out.trans (Y.prop.mono hz))
          clear hx0 hx1 e1 eP eQ g1 g2 g3 g4 g6
          go_wp2
          go_roundw
          case rel => exact ⟨k + 1, S, by omega, HS2.out, by go_num, rfl, HT, HB3.out⟩
          case measure => simp [intOf]; omega
    · obtain rfl : k = l.length := by omega
      have d1 : decide ((l.length : Int) < n) = false := by simp; omega
      go_wp2
      go_ret
      exact ⟨by rw [HN.out, ← HS.out]; rfl, HCB.out⟩

theorem specTwins (n : Int) (v : Value) (l : List Int) (x : Int) (w : World) (h : Ints w v l) :
    Calls Try.prog 33 #[.agg #[.int .i64 n, v], .int .i64 x] w (SaysN (twinsR n l x) w) := by
  by_cases hok : TwOk n l x
  · exact specTwins_yes n v l x w h hok
  · exact specTwins_no n v l x w h hok

set_option maxHeartbeats 2000000 in
set_option maxRecDepth 100000 in
theorem implTwins_no (n : Int) (v : Value) (l : List Int) (x : Int) (w : World) (h : Ints w v l) (hno : ¬ TwOk n l x) :
    Calls Try.prog 34 #[.agg #[.int .i64 n, v], .int .i64 x] w (SaysN (twinsR n l x) w) := by
  obtain ⟨a, cap, rfl, -, -⟩ := h.form
  have HA := argG' (T := 27) (n := n) h
  have HI := Lib.hid h
  have HN := Lib.hid (show twinsR n l x = 0 by unfold twinsR; rw [if_neg hno])
  have HN0 := Lib.hid hno
  clear h hno
  go_enter Try.func34, Try.ntmps34
  go_wp2_with fail
  refine (implIsG_any n _ l _ (HI.out.alloc _)).mono ?_
  rintro e w1 ⟨r, rfl, hr, hb⟩
  have HB := Lib.hid (hb.mono (B' := w.heap.size + 1) (by simp))
  have HR := Lib.hid hr
  clear hb hr
  obtain ⟨c0, c1, cI, cB, hz⟩ := HA.out _ HB.out
  have HCI := Lib.hid cI
  have HCB := Lib.hid cB
  clear cI cB
  cases r with
  | false =>
    go_wp2
    go_ret
    exact ⟨by rw [HN.out]; rfl, HCB.out⟩
  | true =>
    by_cases hxx : 0 ≤ x ∧ x < n
    · exact absurd ⟨HR.out.1 rfl, hxx⟩ HN0.out
    · have HXX := Lib.hid hxx
      clear hxx
      go_wp2_with fail
      refine (hasVertex_no n _ l x _ HCI.out HXX.out).mono ?_
      rintro e w2 ⟨rfl, hb⟩
      have HCB2 := Lib.hid (HCB.out.trans (hb.mono HCB.out.size))
      clear hb
      go_wp2
      go_ret
      exact ⟨by rw [HN.out]; rfl, HCB2.out⟩

set_option maxHeartbeats 4000000 in
set_option maxRecDepth 100000 in
theorem implTwins_yes (n : Int) (v : Value) (l : List Int) (x : Int) (w : World) (h : Ints w v l) (hok : TwOk n l x) :
    Calls Try.prog 34 #[.agg #[.int .i64 n, v], .int .i64 x] w (SaysN (twinsR n l x) w) := by
  obtain ⟨a, cap, rfl, -, -⟩ := h.form
  have HA := argG' (T := 27) (n := n) h
  have HI := Lib.hid h
  have HN := Lib.hid (show twinsR n l x = ((twN n l x.toNat l.length : Nat) : Int) by unfold twinsR; rw [if_pos hok])
  obtain ⟨hg, x0, x1⟩ := hok
  obtain ⟨X, rfl⟩ := Int.eq_ofNat_of_zero_le x0
  rw [Int.toNat_natCast] at HN
  have HG := Lib.hid hg
  have hn7 := hg.2.1
  have hnl := hg.2.2.1
  have hl7 : l.length ≤ 7 := by omega
  have hle : (l.length : Int) ≤ n := by omega
  have hge : n ≤ (l.length : Int) := by omega
  have hX7 : X < 7 := by omega
  clear h hg hnl
  go_enter Try.func34, Try.ntmps34
  go_wp2_with fail
  refine (implIsG_any n _ l _ (HI.out.alloc _)).mono ?_
  rintro e w1 ⟨r, rfl, hr, hb⟩
  obtain rfl : r = true := hr.2 HG.out
  have HB := Lib.hid (hb.mono (B' := w.heap.size + 1) (by simp))
  clear hb hr
  obtain ⟨c0, c1, cI, -, hz⟩ := HA.out _ HB.out
  have HCI := Lib.hid cI
  clear cI
  go_wp2_with fail
  refine (hasVertex_yes n _ l X _ HCI.out (by omega) x1).mono ?_
  rintro e w2 ⟨rfl, hb⟩
  have HB2 := Lib.hid (HB.out.trans (hb.mono hz))
  clear hb c0 c1 hz HCI
  obtain ⟨c0, c1, -, -, hz⟩ := HA.out _ HB2.out
  go_wp2
  clear c0 c1 hz
  go_loopw [5, 18] (fun s i wr => ∃ k S : Nat, k ≤ l.length ∧ S < 2 ^ k ∧ i = .int .i64 k ∧ s = .int .i64 S ∧ Hid (S = twN n l X k) ∧ Below (w.heap.size + 1) (w.alloc (.cells #[.int .i64 n, .slice a l.length cap] 27)) wr) (fun _ i _ => l.length - (intOf i).toNat)
  case atStart => exact ⟨0, 0, by omega, by simp, rfl, rfl, rfl, HB2.out⟩
  case round =>
    obtain ⟨k, S, hk, hS, rfl, rfl, HS, hbel⟩ := hrel
    obtain ⟨c0, c1, -, cB, hz⟩ := HA.out _ hbel
    have HBL := Lib.hid hbel
    have HCB := Lib.hid cB
    clear hbel cB
    by_cases hlt : k < l.length
    · have hkn : (k : Int) < n := by omega
      have d1 : decide ((k : Int) < n) = true := by simp [hkn]
      have HX : Hid (∀ Y : Since wr, ArgG 27 w n (.slice a l.length cap) l Y.val) := fun Y => HA.out _ (HBL.out.trans (Y.prop.mono hz))
      have hx0 : ∀ Y : Since wr, Y.val.cell? ⟨w.heap.size, 0, none⟩ = some (.int .i64 n) := fun Y => (HX.out Y).1
      have hx1 : ∀ Y : Since wr, Y.val.cell? ⟨w.heap.size, 1, none⟩ = some (.slice a l.length cap) := fun Y => (HX.out Y).2.1
      obtain ⟨P, hP⟩ : ∃ P, P = 2 ^ X := ⟨_, rfl⟩
      obtain ⟨Q, hQ⟩ : ∃ Q, Q = 2 ^ k := ⟨_, rfl⟩
      have eP : (2 : Int) ^ X = (P : Int) := by rw [hP]; push_cast; rfl
      have eQ : (2 : Int) ^ k = (Q : Int) := by rw [hQ]; push_cast; rfl
      have hP7 : P < 128 := by rw [hP]; exact Nat.pow_lt_pow_right (n := 7) (by omega) (by omega)
      have hQ7 : Q < 128 := by rw [hQ]; exact Nat.pow_lt_pow_right (n := 7) (by omega) (by omega)
      have g1 : IntKind.i64.wrap (1 * (P : Int)) = P := IntWalk.i64_in _ (by omega) |>.trans (by omega)
      have g2 : IntKind.i64.wrap (P : Int) = P := IntWalk.i64_in _ (by omega)
      have g3 : IntKind.i64.wrap (1 * (Q : Int)) = Q := IntWalk.i64_in _ (by omega) |>.trans (by omega)
      have g4 : IntKind.i64.wrap (Q : Int) = Q := IntWalk.i64_in _ (by omega)
      have hSF : S < 128 := by have := two_le k (by omega); omega
      have g5 : IntKind.i64.wrap ((S : Int) + (Q : Int)) = ((S + Q : Nat) : Int) := (IntWalk.i64_in _ (by omega)).trans (by omega)
      have g6 : bits .or .i64 (S : Int) (Q : Int) = ((S + Q : Nat) : Int) := by rw [hQ]; exact or_fresh k S (by omega) hS
      have hSQ : S + Q < 2 ^ (k + 1) := by rw [Nat.pow_succ, ← hQ]; rw [← hQ] at hS; omega
      obtain ⟨R, hR⟩ : ∃ R, R = (P ||| Q) := ⟨_, rfl⟩
      have e1 : bits .or .i64 (P : Int) (Q : Int) = (R : Int) := by rw [hR]; exact (bits_nat P Q hP7 hQ7).2
      have HRR := Lib.hid (show R = (2 ^ X ||| 2 ^ k) by rw [hR, hP, hQ])
      have HQQ := Lib.hid hQ
      have HTS := Lib.hid (show twN n l X (k + 1) = if k ≠ X ∧ ModS n l (R : Int) then twN n l X k + Q else twN n l X k by rw [hQ, HRR.out]; rfl)
      have hS2 : S < 2 ^ (k + 1) := by rw [Nat.pow_succ]; omega
      have HS2 := Lib.hid hS2
      have HSQ := Lib.hid hSQ
      clear hP hQ hR hS hS2 hSQ
      by_cases hkx : k = X
      · have q1 : ((k : Int) == (X : Int)) = true := by simp [hkx]
        have q2 : ((k : Int) != (X : Int)) = false := by simp [hkx]
        have HT := Lib.hid (show S = twN n l X (k + 1) by rw [HTS.out, if_neg (fun h => h.1 hkx)]; exact HS.out)
        have HKX := Lib.hid hkx
        clear hkx
        go_wp2
        refine wp_region_since (by kernel_rfl) (by kernel_rfl) ?_
        repeat (go_big_quiet_step (fail))
        refine wpQuiet_nil ?_
        intro Y
        have HB3 := Lib.hid (HBL.out.trans (Y.prop.mono hz))
        clear hx0 hx1 e1 eP eQ g1 g2 g3 g4 g6
        go_wp2
        go_roundw
        case rel => exact ⟨k + 1, S, by omega, HS2.out, by go_num, rfl, HT, HB3.out⟩
        case measure => simp [intOf]; omega
      · have q1 : ((k : Int) == (X : Int)) = false := by simp; omega
        have q2 : ((k : Int) != (X : Int)) = true := by simp; omega
        by_cases hm : ModS n l (R : Int)
        · have HC1 : Hid (∀ Y : Since wr, Calls Try.prog 32 #[.agg #[.int .i64 n, .slice a l.length cap], .int .i64 R] Y.val fun e w' => e = .returned (.bool true) ∧ Below Y.val.heap.size Y.val w') := fun Y => (implMod n _ l R _ (HX.out Y).2.2.1).mono fun _ _ h => h.is_yes hm
          have HT := Lib.hid (show S + Q = twN n l X (k + 1) by rw [HTS.out, if_pos ⟨hkx, hm⟩, HS.out])
          clear hkx hm
          go_wp2
          refine wp_region_since (by kernel_rfl) (by kernel_rfl) ?_
          repeat (go_big_quiet_step (exact since_call (HC1.out _)))
          refine wpQuiet_nil ?_
          intro Y
          have HB3 := Lib.hid (HBL.out.trans (Y.prop.mono hz))
          clear hx0 hx1 e1 eP g1 g2
          go_wp2
          go_roundw
          case rel => exact ⟨k + 1, S + Q, by omega, HSQ.out, by go_num, by first | rfl | go_num, HT, HB3.out⟩
          case measure => simp [intOf]; omega
        · have HC1 : Hid (∀ Y : Since wr, Calls Try.prog 32 #[.agg #[.int .i64 n, .slice a l.length cap], .int .i64 R] Y.val fun e w' => e = .returned (.bool false) ∧ Below Y.val.heap.size Y.val w') := fun Y => (implMod n _ l R _ (HX.out Y).2.2.1).mono fun _ _ h => h.is_no hm
          have HT := Lib.hid (show S = twN n l X (k + 1) by rw [HTS.out, if_neg (fun h => hm h.2)]; exact HS.out)
          clear hkx hm
          go_wp2
          refine wp_region_since (by kernel_rfl) (by kernel_rfl) ?_
          repeat (go_big_quiet_step (exact since_call (HC1.out _)))
          refine wpQuiet_nil ?_
          intro Y
          have HB3 := Lib.hid (HBL.out.trans (Y.prop.mono hz))
          clear hx0 hx1 e1 eP eQ g1 g2 g3 g4 g6
          go_wp2
          go_roundw
          case rel => exact ⟨k + 1, S, by omega, HS2.out, by go_num, rfl, HT, HB3.out⟩
          case measure => simp [intOf]; omega
    · obtain rfl : k = l.length := by omega
      have d1 : decide ((l.length : Int) < n) = false := by simp; omega
      go_wp2
      go_ret
      exact ⟨by rw [HN.out, ← HS.out]; rfl, HCB.out⟩

theorem implTwins (n : Int) (v : Value) (l : List Int) (x : Int) (w : World) (h : Ints w v l) :
    Calls Try.prog 34 #[.agg #[.int .i64 n, v], .int .i64 x] w (SaysN (twinsR n l x) w) := by
  by_cases hok : TwOk n l x
  · exact implTwins_yes n v l x w h hok
  · exact implTwins_no n v l x w h hok

end Go.Proofs.Ytfeepheckeplmab
