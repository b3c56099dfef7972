/- impl.TreewidthOf. -/
import Derived.Test.YtpifgmmmmhenmacPy
namespace Go.Proofs.Ytpifgmmmmhenmac
set_option linter.unusedVariables false
set_option linter.unusedSimpArgs false
open Go.RowKit

theorem andNotP (a b : Nat) (ha : a < 128) (hb : b < 128) : bits .andNot .i64 (a : Int) (b : Int) = ((a &&& (127 ^^^ b) : Nat) : Int) := by
  have : ∀ (a b : Fin 128), bits .andNot .i64 ((a.val : Nat) : Int) ((b.val : Nat) : Int) = ((a.val &&& (127 ^^^ b.val) : Nat) : Int) := by decide +kernel
  exact this ⟨a, ha⟩ ⟨b, hb⟩

theorem popU_le (n X : Nat) (hn : n ≤ 7) (h : X < 2 ^ n) : 0 ≤ popU (X : Int) ∧ popU (X : Int) ≤ n := by
  have h' : ∀ (n : Fin 8) (X : Fin 128), X.val < 2 ^ n.val → 0 ≤ popU (X.val : Int) ∧ popU (X.val : Int) ≤ n.val := by decide +kernel
  exact h' ⟨n, by omega⟩ ⟨X, Nat.lt_of_lt_of_le h (two_le n hn)⟩ h

/-- What comes around the part of v within a set. -/
def parN (l : List Int) (S v : Nat) : Nat := aroundN (rowN l) (itN (rowN l) S (2 ^ v) l.length)

/-- How many vertices are joined to v behind a set. -/
def treeC (l : List Int) (b v : Nat) : Int := popU ((parN l (b + 2 ^ v) v &&& (127 ^^^ (b + 2 ^ v)) : Nat) : Int)

def treeR (n : Int) (l : List Int) : Int := if IsG n l then nextW (treeC l) (2 ^ l.length - 1) else -1

theorem two_lt {l : List Int} {b v : Nat} (h : b + 2 ^ v < 2 ^ l.length) : 2 ^ v < 2 ^ l.length := by omega

theorem par_lt {n : Int} {l : List Int} (hg : IsG n l) {S v : Nat} (h : 2 ^ v < 2 ^ l.length) : parN l S v < 2 ^ l.length := around_lt hg (it_lt hg h _)

theorem tree_bd {n : Int} {l : List Int} (hg : IsG n l) {b v : Nat} (h : b + 2 ^ v < 2 ^ l.length) : 0 ≤ treeC l b v ∧ treeC l b v ≤ l.length :=
  popU_le _ _ (full_castP hg).2.2.2.2 (Nat.lt_of_le_of_lt Nat.and_le_left (par_lt hg (two_lt h)))

theorem or_add {b v : Nat} (hv : v < 7) (hb : b < 128) (h : b.testBit v = false) : bits .or .i64 (b : Int) (2 ^ v) = ((b + 2 ^ v : Nat) : Int) := by
  have h0 : bitAt (b : Int) v = 0 := by
    rcases bitAt_two (b : Int) v with h1 | h1
    · exact h1
    · rw [bitAt_nat, h] at h1; cases h1
  rw [(set_small (b : Int) v (by omega) (by omega) hv h0).1]
  push_cast
  rfl

theorem sub_more {b v : Nat} (h : b.testBit v = false) : Sub (2 ^ v) (b + 2 ^ v) := fun i hi => by
  rw [Nat.testBit_two_pow] at hi
  obtain rfl := of_decide_eq_true hi
  rw [Nat.add_comm, Nat.testBit_two_pow_add_eq, h]
  rfl

set_option maxHeartbeats 2000000 in
set_option maxRecDepth 100000 in
theorem joined_is (n : Int) (u : Value) (l : List Int) (b v : Nat) (w : World) (h : Ints w u l) (hg : IsG n l) (hv : v < 7) (hlt : b + 2 ^ v < 2 ^ l.length) (hnb : b.testBit v = false) :
    Calls Try.prog 48 #[.agg #[.int .i64 n, u], .int .i64 b, .int .i64 v] w (SaysN (treeC l b v) w) := by
  obtain ⟨a, cap, rfl, -, -⟩ := h.form
  have HA := argG' (T := 37) (n := n) h
  have h7 : l.length ≤ 7 := (full_castP hg).2.2.2.2
  have h128 := two_le _ h7
  have hp0 : 0 < 2 ^ v := Nat.pow_pos (by decide)
  obtain ⟨P, eP, hP1, hP2⟩ : ∃ P, (2 : Int) ^ v = P ∧ 1 ≤ P ∧ P ≤ 128 := ⟨_, rfl, (shl_one' v (by omega)).2.2.2.2, (shl_one' v (by omega)).2.2.2.1⟩
  have g1 : IntKind.i64.wrap (1 * P) = P := IntWalk.i64_in _ (by omega) |>.trans (by omega)
  have g2 : IntKind.i64.wrap P = P := IntWalk.i64_in _ (by omega)
  have hPn : P = ((2 ^ v : Nat) : Int) := by rw [← eP]; push_cast; rfl
  obtain ⟨S, hS⟩ : ∃ S, S = b + 2 ^ v := ⟨_, rfl⟩
  have hSl : S < 2 ^ l.length := by rw [hS]; exact hlt
  have q1 : bits .or .i64 (b : Int) P = (S : Int) := by rw [← eP, hS]; exact or_add hv (by omega) hnb
  obtain ⟨Z, hZ⟩ : ∃ Z, Z = itN (rowN l) S (2 ^ v) l.length := ⟨_, rfl⟩
  have hZl : Z < 2 ^ l.length := by rw [hZ]; exact it_lt hg (two_lt hlt) _
  obtain ⟨Y, hY⟩ : ∃ Y, Y = aroundN (rowN l) Z := ⟨_, rfl⟩
  have hYl : Y < 2 ^ l.length := by rw [hY]; exact around_lt hg hZl
  obtain ⟨D, hD⟩ : ∃ D, D = Y &&& (127 ^^^ S) := ⟨_, rfl⟩
  have q2 : bits .andNot .i64 (Y : Int) (S : Int) = (D : Int) := by rw [hD]; exact andNotP Y S (by omega) (by omega)
  obtain ⟨p, hp⟩ : ∃ p, p = popU (D : Int) := ⟨_, rfl⟩
  have HN := Lib.hid (show treeC l b v = p by rw [hp, hD, hY, hZ, hS]; rfl)
  obtain ⟨w1, hw1⟩ : ∃ w1, w1 = w.alloc (.cells #[.int .i64 n, .slice a l.length cap] 37) := ⟨_, rfl⟩
  have HX : Hid (∀ X : Since w1, ArgG 37 w n (.slice a l.length cap) l X.val) := fun X => HA.out _ (since_below hw1 (by simp) X)
  have hx0 : ∀ X : Since w1, X.val.cell? ⟨w.heap.size, 0, none⟩ = some (.int .i64 n) := fun X => (HX.out X).1
  have hx1 : ∀ X : Since w1, X.val.cell? ⟨w.heap.size, 1, none⟩ = some (.slice a l.length cap) := fun X => (HX.out X).2.1
  have HC1 : Hid (∀ X : Since w1, Calls Try.prog 66 #[.agg #[.int .i64 n, .slice a l.length cap], .int .i64 S, .int .i64 P] X.val fun e w' => e = .returned (.int .i64 Z) ∧ Below X.val.heap.size X.val w') := fun X => by
    rw [hZ, hPn]
    exact partFrom_is n _ l S (2 ^ v) _ (HX.out X).2.2.1 hg hSl (by rw [hS]; exact sub_more hnb) hp0
  have HC2 : Hid (∀ X : Since w1, Calls Try.prog 63 #[.agg #[.int .i64 n, .slice a l.length cap], .int .i64 Z] X.val fun e w' => e = .returned (.int .i64 Y) ∧ Below X.val.heap.size X.val w') := fun X => by
    have := implAround n _ l (Z : Int) _ (HX.out X).2.2.1
    rw [aroundR_nat hg hZl, ← hY] at this
    exact this
  have HC3 : Hid (∀ X : Since w1, Calls Try.prog 62 #[.int .i64 D] X.val fun e w' => e = .returned (.int .i64 p) ∧ Below X.val.heap.size X.val w') := fun X => by
    rw [hp]; exact (implCountSet (D : Int) _).mono fun _ _ h => ⟨h.1, eq_below h.2⟩
  clear hZ hY hD hp hPn hS hlt hnb h hSl hZl hYl
  rw [HN.out]
  go_enter Try.func48, Try.ntmps48
  go_wp2
  rw [← hw1]
  clear hw1
  refine wp_region_since (by kernel_rfl) (by kernel_rfl) ?_
  repeat (go_big_quiet_step (first | with_reducible exact since_call (HC1.out _) | with_reducible exact since_call (HC2.out _) | with_reducible exact since_call (HC3.out _)))
  refine wpQuiet_nil ?_
  intro X
  have HW := Lib.hid (HX.out X).2.2.2.1
  clear hx0 hx1
  go_wp2
  go_ret
  exact ⟨rfl, HW.out⟩

theorem enters_tree : Enters 47 := fun args W => by rfl

set_option maxHeartbeats 2000000 in
set_option maxRecDepth 100000 in
theorem tree_rule (n : Int) (a : Option Addr) (cap : Nat) (l : List Int) (q : Nat) (w : World) (hI : Ints w (.slice a l.length cap) l) (hg : IsG n l) (hb : BoxG q n (.slice a l.length cap) w) :
    RuleC 47 #[.pointer (some ⟨q, 0, none⟩)] (treeC l) (2 ^ l.length) w := by
  intro W b v hv hlt hnb hW
  show Calls Try.prog 47 #[.int .i64 b, .int .i64 v, .pointer (some ⟨q, 0, none⟩)] W _
  obtain ⟨c0, c1, cz⟩ := hb.keep (below_grown hW) (by simp)
  have HC := Lib.hid (joined_is n _ l b v W (hI.on hW) hg hv hlt hnb)
  clear hI hg hb hlt hnb hW
  go_enter Try.func47, Try.ntmps47
  go_wp2_with fail
  refine HC.out.mono ?_
  rintro e w1 ⟨rfl, hb⟩
  have HB := Lib.hid hb
  clear hb
  go_wp2
  go_ret
  exact ⟨rfl, HB.out⟩

set_option maxHeartbeats 2000000 in
set_option maxRecDepth 100000 in
theorem implTree9 (n : Int) (v : Value) (l : List Int) (w : World) (h : Ints w v l) :
    Calls Try.prog 23 #[.agg #[.int .i64 n, v]] w (SaysN (treeR n l) w) := by
  obtain ⟨a, cap, rfl, -, -⟩ := h.form
  have HI := Lib.hid h
  have hmf : ∀ (fn : Fn) (first cap : Array Value) (w : World), (Instr.makeFunc fn first cap).run Try.prog w = .ok (.func fn first cap) w := fun _ _ _ _ => rfl
  obtain ⟨w0, hw0⟩ : ∃ w0, w0 = w.alloc (.cells #[.int .i64 n, .slice a l.length cap] 37) := ⟨_, rfl⟩
  have HB0 := Lib.hid (show Below w.heap.size w w0 by rw [hw0]; exact (Below.refl _ w).alloc (Nat.le_refl _) _)
  have HX0 := Lib.hid (show BoxG w.heap.size n (.slice a l.length cap) w0 by rw [hw0]; exact BoxG.new w 37 n (.slice a l.length cap) ⟨_, _, _, rfl⟩)
  clear h
  go_enter Try.func23, Try.ntmps23
  go_wp2_with fail
  rw [← hw0]
  refine (implIsG_any n _ l _ (HI.out.on HB0.out)).mono ?_
  rintro e w1 ⟨r, rfl, hr, hb⟩
  have HB1 := Lib.hid (HB0.out.trans (hb.mono HB0.out.size))
  have HX1 := Lib.hid (HX0.out.keep (below_grown hb) (by simp))
  obtain ⟨c0, c1, cz⟩ := HX1.out
  clear hb hw0
  cases r with
  | false =>
    have HN := Lib.hid (show treeR n l = -1 by unfold treeR; rw [if_neg (fun h => absurd (hr.2 h) (by decide))])
    clear hr
    go_wp2
    go_ret
    exact ⟨by rw [HN.out]; rfl, HB1.out⟩
  | true =>
    have HG := Lib.hid (hr.1 rfl)
    clear hr
    have HN := Lib.hid (show nextW (treeC l) (2 ^ l.length - 1) = treeR n l by unfold treeR; rw [if_pos HG.out])
    go_wp2_with fail
    refine (leastOverOrders_any _ _ (treeC l) n _ l _ (HI.out.on HB1.out) HG.out enters_tree (tree_rule n a cap l w.heap.size w1 (HI.out.on HB1.out) HG.out HX1.out) (fun b v h _ => by have := tree_bd HG.out h; have := (full_castP HG.out).2.2.2.2; omega)).mono ?_
    rintro e w2 ⟨rfl, hb⟩
    rw [HN.out]
    have HB2 := Lib.hid (HB1.out.trans (hb.mono HB1.out.size))
    clear hb
    go_wp2
    go_ret
    exact ⟨rfl, HB2.out⟩

end Go.Proofs.Ytpifgmmmmhenmac
