/- impl.IsSimple. -/
import Derived.Test.YtpifgmmmmhenmaaE3
import Derived.Test.YtpifgmmmmhenmaaV2
import Derived.Test.YtpifgmmmmhenmaaRq
import Derived.BigQuiet
import Derived.Sort.CutIn
import Derived.Deep.RegionWith
import Derived.Deep.RegionHeld3
namespace Go.Proofs.Ytpifgmmmmhenmaa
set_option linter.unusedVariables false
set_option linter.unusedSimpArgs false
open Go.RowKit Go.Shelf
attribute [local go_sem] Oper.semAt_some

/-- What lies around a vertex within a set. -/
def smN (l : List Int) (S i : Nat) : Nat := clsN l i &&& S

/-- Do two sets overlap, neither within the other? -/
def ovS (x y : Int) : Bool := (bits .and .i64 x y != 0) && (bits .andNot .i64 x y != 0) && (bits .andNot .i64 y x != 0)

theorem over_is (x y : Int) (w : World) : Calls Try.prog 130 #[.int .i64 x, .int .i64 y] w (fun e w' => e = .returned (.bool (ovS x y)) ∧ Below w.heap.size w w') := by
  obtain ⟨b, hb⟩ : ∃ b, b = ovS x y := ⟨_, rfl⟩
  obtain ⟨P, hP⟩ : ∃ P, P = bits .and .i64 x y := ⟨_, rfl⟩
  obtain ⟨Q, hQ⟩ : ∃ Q, Q = bits .andNot .i64 x y := ⟨_, rfl⟩
  obtain ⟨S, hS⟩ : ∃ S, S = bits .andNot .i64 y x := ⟨_, rfl⟩
  have HB := Lib.hid (show b = ((P != 0) && (Q != 0) && (S != 0)) by rw [hb, hP, hQ, hS]; rfl)
  rw [← hb]
  have e1 : bits .and .i64 x y = P := hP.symm
  have e2 : bits .andNot .i64 x y = Q := hQ.symm
  have e3 : bits .andNot .i64 y x = S := hS.symm
  clear hb hP hQ hS
  cases hp : (P != 0) with
  | false =>
    have HE := Lib.hid (show b = false by rw [HB.out, hp]; rfl)
    go_enter Try.func130, Try.ntmps130
    go_wp2
    go_ret
    exact ⟨by rw [HE.out] <;> rfl, Below.refl _ _⟩
  | true =>
    cases hq : (Q != 0) with
    | false =>
      have HE := Lib.hid (show b = false by rw [HB.out, hp, hq]; rfl)
      go_enter Try.func130, Try.ntmps130
      go_wp2
      go_ret
      exact ⟨by rw [HE.out] <;> rfl, Below.refl _ _⟩
    | true =>
      cases hs : (S != 0) with
      | false =>
        have HE := Lib.hid (show b = false by rw [HB.out, hp, hq, hs]; rfl)
        go_enter Try.func130, Try.ntmps130
        go_wp2
        go_ret
        exact ⟨by rw [HE.out] <;> rfl, Below.refl _ _⟩
      | true =>
        have HE := Lib.hid (show b = true by rw [HB.out, hp, hq, hs]; rfl)
        go_enter Try.func130, Try.ntmps130
        go_wp2
        go_ret
        exact ⟨by rw [HE.out] <;> rfl, Below.refl _ _⟩

/-- No two of what lies around v overlap. -/
def SimOk (l : List Int) (S V : Nat) : Prop := ∀ a ∈ memN (smN l S V), ∀ b ∈ memN (smN l S V), ovS (smN l S a : Nat) (smN l S b : Nat) = false

instance (l : List Int) (S V : Nat) : Decidable (SimOk l S V) := by unfold SimOk; infer_instance

def SimP (n : Int) (l : List Int) (x s : Int) : Prop := IsS n l s ∧ (0 ≤ x ∧ x < n) ∧ bitAt s x.toNat = 1 ∧ SimOk l s.toNat x.toNat

instance (n : Int) (l : List Int) (x s : Int) : Decidable (SimP n l x s) := by unfold SimP; infer_instance

theorem KeepsOthers.ofBelow {W W' : World} (h : Below W.heap.size W W') : KeepsOthers W W' := ⟨h.size, fun i o hi _ => (h.block i (Array.getElem?_eq_some_iff.1 hi).1).trans hi⟩

/-- Between two rounds of the outer loop. -/
def SimI (l : List Int) (S X : Nat) (w2 : World) (pre : List (Mem (X : Int))) (W : World) : Prop := (∀ a ∈ pre, ∀ b ∈ memN X, ovS (smN l S a.1 : Nat) (smN l S b : Nat) = false) ∧ Below w2.heap.size w2 W

def SimX (l : List Int) (S X : Nat) (b : Nat) (w : World) (c : Code) (pre : List (Mem (X : Int))) (W : World) : Prop := c = .ret ∧ (∃ a ∈ pre, ∃ b ∈ memN X, ovS (smN l S a.1 : Nat) (smN l S b : Nat) = true) ∧ W.cell? ⟨b, 0, none⟩ = some (.bool false) ∧ Below w.heap.size w W

/-- Between two rounds of the inner loop. -/
def SimJ (l : List Int) (S X i : Nat) (w2 : World) (pre : List (Mem (X : Int))) (W : World) : Prop := (∀ a ∈ pre, ovS (smN l S i : Nat) (smN l S a.1 : Nat) = false) ∧ Below w2.heap.size w2 W

def SimY (l : List Int) (S X i : Nat) (b : Nat) (w W6 : World) (B : Nat) (c : Code) (pre : List (Mem (X : Int))) (W : World) : Prop := (c = .ret ∧ (∃ a ∈ pre, ovS (smN l S i : Nat) (smN l S a.1 : Nat) = true) ∧ W.cell? ⟨b, 0, none⟩ = some (.bool false) ∧ Below w.heap.size w W) ∧ KeepsFrom B W6 W

set_option maxHeartbeats 4000000 in
set_option maxRecDepth 100000 in
theorem implSimple (n : Int) (v : Value) (l : List Int) (x s : Int) (w : World) (h : Ints w v l) :
    Calls Try.prog 71 #[.agg #[.int .i64 n, v], .int .i64 x, .int .i64 s] w (SaysB (SimP n l x s) w) := by
  obtain ⟨a, cap, rfl, -, -⟩ := h.form
  have HI := Lib.hid h
  clear h
  have hmix : Try.prog.follows .mixedOrders = true := by kernel_rfl
  refine (callsIn_wide (n := 9)).1 ?_
  refine callsIn_of_wp_marks Try.func71 rfl trivial ?_ rfl
  simp only [Try.ntmps71, List.size_toArray, List.length_cons, List.length_nil, Nat.reduceAdd, Nat.reduceSub, Array.replicate_succ, Array.replicate_zero, List.push_toArray, List.append_toArray, List.nil_append, List.cons_append]
  obtain ⟨W0, hW0⟩ : ∃ W0, W0 = ((w.alloc (.cells #[.int .i64 n, .slice a l.length cap] 31)).alloc (.cells #[.int .i64 s] 3)).alloc (.cells #[.bool false] 4) := ⟨_, rfl⟩
  have GG : (w.alloc (.cells #[.int .i64 n, .slice a l.length cap] 31)).grownBy W0 none := by rw [hW0]; exact grown_trans (grown_alloc _ _ none) (grown_alloc _ _ none)
  have BX := Lib.hid ((BoxG.new w 31 n (.slice a l.length cap) ⟨_, _, _, rfl⟩).keep GG (by simp))
  have BB := Lib.hid (show Below w.heap.size w W0 from ((Below.refl _ w).alloc (Nat.le_refl _) (.cells #[.int .i64 n, .slice a l.length cap] 31)).grown GG (by simp) (fun r e => by cases e))
  have S0 : W0.cell? ⟨w.heap.size + 1, 0, none⟩ = some (.int .i64 s) := by rw [hW0]; simp [go_sem]
  have R0 : W0.cell? ⟨w.heap.size + 1 + 1, 0, none⟩ = some (.bool false) := by rw [hW0]; simp [go_sem]
  have R1 : W0.frozen? ⟨w.heap.size + 1 + 1, 0, none⟩ = false := by rw [hW0]; simp [go_sem]
  have Z0 : W0.heap.size = w.heap.size + 3 := by rw [hW0]; simp
  have K : Hid (∀ W, Below W0.heap.size W0 W → BoxG w.heap.size n (.slice a l.length cap) W ∧ W.cell? ⟨w.heap.size + 1, 0, none⟩ = some (.int .i64 s) ∧ W.cell? ⟨w.heap.size + 1 + 1, 0, none⟩ = some (.bool false) ∧ W.frozen? ⟨w.heap.size + 1 + 1, 0, none⟩ = false ∧ Ints W (.slice a l.length cap) l ∧ Below w.heap.size w W ∧ w.heap.size + 3 ≤ W.heap.size) := fun W hb => by
    have hg : W0.grownBy W none := below_grown hb
    obtain ⟨hc, hf⟩ := gcell hg
    have hB : Below w.heap.size w W := BB.out.grown hg BB.out.size (fun k hk => by simp at hk)
    exact ⟨BX.out.keep hg (by simp), by rw [hc _ _ (by omega) (by simp)]; exact S0, by rw [hc _ _ (by omega) (by simp)]; exact R0, by rw [hf _ _ (by omega) (by simp)]; exact R1, HI.out.on hB, hB, by have := hg.size; omega⟩
  have HZ0 := Lib.hid Z0
  clear GG S0 R0 R1 Z0 BX
  gi_wp2_with fail
  rw [← hW0]
  refine ⟨trivial, (callsIn_wide.2 (implIsSet n _ l s _ (HI.out.on BB.out))).mono ?_⟩
  rintro e w1 ⟨r, rfl, hr, hb⟩
  clear hW0
  obtain ⟨⟨c0, c1, cz⟩, cs, cr, cf, cI, cB, cZ⟩ := K.out w1 hb
  have HB1 := Lib.hid hb
  have HCB := Lib.hid cB
  have HCI := Lib.hid cI
  clear hb cB cI
  cases r with
  | false =>
    have HN := Lib.hid (show ¬ SimP n l x s from fun h => absurd (hr.2 h.1) (by decide))
    clear hr
    gi_wp2
    refine ⟨trivial, ?_⟩
    gi_wp2
    refine ⟨.bool false, by simp [results, Try.f71, go_sem, World.cell?_setCell_same' w1 ⟨w.heap.size + 1 + 1, 0, none⟩ (.bool false) (by rw [cr]; rfl)], SaysB.no HN.out ?_⟩
    exact HCB.out.setCell (by simp <;> omega) _
  | true =>
    have HS := Lib.hid (hr.1 rfl)
    clear hr
    by_cases hx : 0 ≤ x ∧ x < n
    · skip
      obtain ⟨S, hSs⟩ : ∃ S : Nat, S = s.toNat := ⟨_, rfl⟩
      obtain ⟨V, hVv⟩ : ∃ V : Nat, V = x.toNat := ⟨_, rfl⟩
      have HG := Lib.hid HS.out.1
      have hSn := HS.out.nat
      rw [← hSs] at hSn
      obtain ⟨rfl, hSl, hl7⟩ := hSn
      obtain rfl : x = (V : Int) := by omega
      have hVl : V < l.length := by have := HG.out.2.2.1; omega
      have h128 := two_le l.length hl7
      have hS7 : S < 128 := by omega
      obtain ⟨P, eP, hP1, hP2⟩ : ∃ P, (2 : Int) ^ V = P ∧ 1 ≤ P ∧ P ≤ 128 := ⟨_, rfl, (shl_one' V (by omega)).2.2.2.2, (shl_one' V (by omega)).2.2.2.1⟩
      have g1 : IntKind.i64.wrap (1 * P) = P := IntWalk.i64_in _ (by omega) |>.trans (by omega)
      have g2 : IntKind.i64.wrap P = P := IntWalk.i64_in _ (by omega)
      obtain ⟨t, ht⟩ : ∃ t, t = bitAt (S : Int) V := ⟨_, rfl⟩
      have e1 : bits .and .i64 ((S : Int) / P) 1 = t := by rw [ht, ← eP]; exact and_one_bit S V
      have z1 : t = 0 ∨ t = 1 := by rw [ht]; exact bitAt_two _ _
      have HT := Lib.hid ht
      have HX := Lib.hid hx
      clear hSs hVv ht
      rcases z1 with rfl | rfl
      · have HN := Lib.hid (show ¬ SimP n l (V : Int) (S : Int) from fun h => by have := h.2.2.1; rw [Int.toNat_natCast, ← HT.out] at this; cases this)
        gi_wp2_with fail
        refine ⟨trivial, (callsIn_wide.2 (hasVertex_yes n _ l V _ HCI.out hx.1 hx.2)).mono ?_⟩
        rintro e w2 ⟨rfl, hb⟩
        obtain ⟨⟨c0, c1, cz⟩, cs, cr, cf, cI, cB, cZ⟩ := K.out w2 (HB1.out.trans (hb.mono HB1.out.size))
        clear cI hx
        gi_wp2
        refine ⟨.bool false, by simp [results, Try.f71, go_sem, World.cell?_setCell_same' w2 ⟨w.heap.size + 1 + 1, 0, none⟩ (.bool false) (by rw [cr]; rfl)], SaysB.no HN.out ?_⟩
        exact cB.setCell (by simp <;> omega) _
      · obtain ⟨C, hC⟩ : ∃ C, C = clsN l V := ⟨_, rfl⟩
        obtain ⟨X, hX⟩ : ∃ X, X = smN l S V := ⟨_, rfl⟩
        have hC7 : C < 128 := by rw [hC]; exact cls_lt HG.out hVl
        have hXS : X < 2 ^ l.length := by rw [hX]; exact Nat.lt_of_le_of_lt Nat.and_le_right hSl
        have q1 : bits .and .i64 (C : Int) (S : Int) = (X : Int) := by rw [hX, hC]; exact (bits_nat _ _ (cls_lt HG.out hVl) hS7).1
        have HXE := Lib.hid hX
        have HCE := Lib.hid hC
        have ePn : P = ((2 ^ V : Nat) : Int) := by rw [← eP]; push_cast; rfl
        have HPN := Lib.hid ePn
        clear hC hX ePn
        gi_wp2_with fail
        refine ⟨trivial, (callsIn_wide.2 (hasVertex_yes n _ l V _ HCI.out hx.1 hx.2)).mono ?_⟩
        rintro e w2 ⟨rfl, hb⟩
        have HB2 := Lib.hid (HB1.out.trans (hb.mono HB1.out.size))
        clear hb HB1 HCB HCI c0 c1 cz cs cr cf cZ hx
        obtain ⟨⟨c0, c1, cz⟩, cs, cr, cf, cI, cB, cZ⟩ := K.out w2 HB2.out
        have HCI := Lib.hid cI
        clear cI cB
        have HCA : Hid (∀ W, Ints W (.slice a l.length cap) l → Calls Try.prog 128 #[.agg #[.int .i64 n, .slice a l.length cap], .int .i64 P] W fun e w' => e = .returned (.int .i64 C) ∧ Below W.heap.size W w') := fun W hW => by
          have := implAround n _ l P _ hW
          rw [HPN.out, around_one HG.out hVl, ← HCE.out] at this
          rw [HPN.out]
          exact this
        have hz2 : w.heap.size + 1 < w2.heap.size := by omega
        gi_upto_region 3 with fail
        gi_cut [7] from 10 (fun q wx => ∃ k, q = .pointer (some ⟨k, 0, none⟩) ∧ Below w2.heap.size w2 wx ∧ w2.heap.size ≤ k ∧ k < wx.heap.size ∧ wx.cell? ⟨k, 0, none⟩ = some (.int .i64 X))
        case first =>
          refine wpIn_mono (Q := NoPanic _) ?_ NoPanic.imp
          gi_region_with (first
            | (refine ⟨trivial, (callsIn_wide.2 (HCA.out _ (HCI.out.on (Below.refl _ _).drew))).mono ?_⟩; rintro e wy ⟨rfl, hb⟩; have s2 : wy.cell? ⟨w.heap.size + 1, 0, none⟩ = some (.int .i64 S) := (hb.cell (p := ⟨w.heap.size + 1, 0, none⟩) (by show w.heap.size + 1 < w2.heap.size; omega)).trans cs; have s5 : w.heap.size + 1 < wy.heap.size := Nat.lt_of_lt_of_le (by show w.heap.size + 1 < w2.heap.size; omega) hb.size)
            | (refine ⟨trivial, (callsIn_wide.2 (HCA.out _ (HCI.out.on ((Below.refl _ _).alloc (Nat.le_refl _) _).drew))).mono ?_⟩; rintro e wy ⟨rfl, hb⟩; have s2 : wy.cell? ⟨w.heap.size + 1, 0, none⟩ = some (.int .i64 S) := (hb.cell (p := ⟨w.heap.size + 1, 0, none⟩) (by simp <;> omega)).trans (((Below.refl _ w2).alloc (Nat.le_refl _) _).drew.cell (p := ⟨w.heap.size + 1, 0, none⟩) (by show w.heap.size + 1 < w2.heap.size; omega) |>.trans cs); have s3 : wy.cell? ⟨w2.heap.size, 0, none⟩ = some (.int .i64 0) := (hb.cell (p := ⟨w2.heap.size, 0, none⟩) (by simp)).trans (by simp [go_sem]); have s4 : wy.frozen? ⟨w2.heap.size, 0, none⟩ = false := (hb.frozen (p := ⟨w2.heap.size, 0, none⟩) (by simp)).trans (by simp [go_sem]); have s5 : w.heap.size + 1 < wy.heap.size := Nat.lt_of_lt_of_le (by simp <;> omega) hb.size))
          all_goals refine NoPanic.normal ?_
          all_goals gi_wp2_with fail
          all_goals gi_meet
          all_goals first
            | exact ⟨wy.heap.size, rfl, ((Below.refl _ w2).drew.trans hb).alloc hb.size _, hb.size, by simp, by simp [go_sem]⟩
            | exact ⟨w2.heap.size, rfl, (((Below.refl _ w2).alloc (Nat.le_refl _) _).drew.trans (hb.mono (by simp))).setCell (p := ⟨w2.heap.size, 0, none⟩) (Nat.le_refl _) _, Nat.le_refl _, by have := hb.size; simp at this ⊢; omega, World.cell?_setCell_same _ _ _ s3⟩
        case rest =>
          obtain ⟨z, rfl, hbq, hq1, hq2, hcX⟩ := hcut
          have HB4 := Lib.hid (show Below W0.heap.size W0 wc from HB2.out.trans (hbq.mono HB2.out.size))
          obtain ⟨W5, hW5⟩ : ∃ W5, W5 = wc.alloc (.cells #[.int .i64 (X : Int)] 3) := ⟨_, rfl⟩
          have HB5 := Lib.hid (show Below W0.heap.size W0 W5 by rw [hW5]; exact HB4.out.alloc HB4.out.size _)
          obtain ⟨y0, hy0⟩ : ∃ y0, y0 = wc.heap.size := ⟨_, rfl⟩
          have hz5 : W5.heap.size = y0 + 1 := by rw [hW5, hy0]; simp
          have hcX5 : W5.cell? ⟨z, 0, none⟩ = some (.int .i64 (X : Int)) := ((((Below.refl _ wc).alloc (Nat.le_refl _) (.cells #[.int .i64 (X : Int)] 3)).cell (p := ⟨z, 0, none⟩) hq2).trans hcX) |> fun h => by rw [hW5]; exact h
          have hcY5 : W5.cell? ⟨y0, 0, none⟩ = some (.int .i64 (X : Int)) := by rw [hW5, hy0]; simp [go_sem]
          have hzz : w.heap.size + 3 ≤ z := by omega
          rw [← hy0] at hq2
          gi_wp2_with fail
          refine ⟨trivial, (callsIn_wide.2 (verticesIn_is X _)).mono ?_⟩
          rintro e w6 ⟨rfl, hw6⟩
          obtain rfl : w6 = W5 := by rw [hW5]; exact hw6.symm
          rw [← hy0]
          clear hw6 hbq hW5 hcX hy0 hq1 hz2 HCA
          gi_wp2_with fail
          have HcX5 := Lib.hid hcX5
          clear hcX5 cs cr cf c0 c1 cz cZ
          refine wpIn_rangeFunc_ownH rfl (by omega) (gf := 160) (lb := #[.pointer (some ⟨y0, 0, none⟩)]) rfl trivial (enters_of Try.func160 (by kernel_rfl) rfl)
            (vin_stops Fence.wide 8 trivial rfl (by omega) y0 w6.heap.size X w6 (by omega) (by omega) hcY5) belowK_t (belowK_b (Nat.le_refl _)) (Below.refl _ _) (fun _ => rfl)
            (SimI l S X w6) (SimX l S X (w.heap.size + 1 + 1) w)
            (fun s A B row hs hg hr => ⟨hs.1, ownFrom_below (β := List (Mem (X : Int))) (Nat.le_refl _) (Nat.le_refl _) s A B row hs.2 hg hr⟩)
            (fun c s A B row hs hg hr => ⟨hs.1, hs.2.1, cell_kept hs.2.2.1 hg (fun r e => (hr r e).2), ownFrom_below (β := List (Mem (X : Int))) (Nat.le_refl _) (by omega) s A B row hs.2.2.2 hg hr⟩)
            ⟨fun y hy => (by cases hy), Below.refl _ _⟩
            (fun y a' W => ∃ Bx, w6.heap.size ≤ Bx ∧ Boxed W Bx 3 (.int .i64 (y.1 : Int)) ∧ a' = { tmps := #[.agg #[.int .i64 n, .slice a l.length cap], .int .i64 (V : Int), .int .i64 (S : Int), .pointer (some ⟨w.heap.size, 0, none⟩), undef, .pointer (some ⟨w.heap.size + 1, 0, none⟩), .pointer (some ⟨w.heap.size + 1 + 1, 0, none⟩), .pointer (some ⟨z, 0, none⟩), .pointer (some ⟨Bx, 0, none⟩), undef, u10, u11, u12, u13, u14, u15, u16, u17, u18, u19, u20, u21, u22, u23, u24, u25, u26, u27, u28, u29, u30, u31, u32, .int .i64 (X : Int), .func (.func 160) #[] #[.pointer (some ⟨y0, 0, none⟩)], .int .i64 (y.1 : Int), u36, u37, u38, u39, u40, u41, u42, u43, u44, u45, u46, u47, u48, u49, u50, u51], defers := [] })
            (fun y a' _ X Y row hs hg hr => by obtain ⟨Bx, e1, e2, e3⟩ := hs; exact ⟨Bx, e1, boxed_own Bx 3 (fun (_ : Unit) => Value.int .i64 (y.1 : Int)) () X Y row e2 hg (fun r e => (hr r e).2), e3⟩)
            ?assign ?body ?done ?stop
          case assign =>
            rintro li pre y W K ⟨hpre, hB⟩ hK
            gi_wp2
            exact hK _ _ ((KeepsOthers.alloc _ _).from _) ((Below.refl _ W).alloc hB.size _) ⟨hpre, hB.alloc hB.size _⟩ ⟨W.heap.size, hB.size, Boxed.new W 3 _, rfl⟩
          case body =>
            rintro li pre y a' W hl ⟨r, hr⟩ ⟨hpre, hB⟩ ⟨Bx, hBx, bX, rfl⟩ hlen
            obtain ⟨i, hi7, hib⟩ := y
            have hil : i < l.length := bit_lt hXS ((bitAt_nat X i).1 hib)
            have hcz : W.cell? ⟨z, 0, none⟩ = some (.int .i64 (X : Int)) := (hB.cell (p := ⟨z, 0, none⟩) (by show z < w6.heap.size; omega)).trans HcX5.out
            have HPRE := Lib.hid hpre
            have HBW := Lib.hid hB
            have hsW := hB.size
            have hbXl := bX.lt
            have HBX := Lib.hid bX.cell
            clear hpre hB bX
            obtain ⟨W6, hW6⟩ : ∃ W6, W6 = W.alloc (.cells #[.int .i64 (X : Int)] 3) := ⟨_, rfl⟩
            obtain ⟨y1, hy1⟩ : ∃ y1, y1 = W.heap.size := ⟨_, rfl⟩
            have hz6 : W6.heap.size = y1 + 1 := by rw [hW6, hy1]; simp
            have hb6 : Below W.heap.size W W6 := by rw [hW6]; exact (Below.refl _ W).alloc (Nat.le_refl _) _
            have hcY6 : W6.cell? ⟨y1, 0, none⟩ = some (.int .i64 (X : Int)) := by rw [hW6, hy1]; simp [go_sem]
            have hr' : W6.heap[li]? = some (.loop r) := by rw [hW6]; exact (Below.heap_alloc W _ li (Array.getElem?_eq_some_iff.1 hr).1).trans hr
            have HB6 := Lib.hid hb6
            gi_wp2_with fail
            refine ⟨trivial, (CallsIn.inRound li (callsIn_wide.2 (verticesIn_is X _))).mono ?_⟩
            rintro e wv ⟨rfl, hwv⟩
            obtain rfl : wv = W6 := by rw [hW6]; exact hwv.symm
            rw [← hy1]
            have HY1 := Lib.hid hy1
            have hWy : W.heap.size ≤ y1 := Nat.le_of_eq hy1.symm
            clear hwv hW6 hb6 hcz hy1
            gi_wp2_with fail
            refine wpIn_rangeFunc_ownN (l₀ := li) (r₀ := r) rfl hr' (by omega) (gf := 160) (lb := #[.pointer (some ⟨y1, 0, none⟩)]) rfl trivial (enters_of Try.func160 (by kernel_rfl) rfl)
              ((vin_stops Fence.wide 6 trivial rfl (by omega) y1 wv.heap.size X wv (by omega) (by omega) hcY6).inRound li) belowK_t (belowK_b (Nat.le_refl _)) (Below.refl _ _) (fun _ => rfl)
              (SimJ l S X i wv) (SimY l S X i (w.heap.size + 1 + 1) w W w6.heap.size)
              (fun s A B row hs hg hr => ⟨hs.1, ownFrom_below (β := List (Mem (X : Int))) (Nat.le_refl _) (Nat.le_refl _) s A B row hs.2 hg hr⟩)
              (fun c s A B row hs hg hr => ⟨⟨hs.1.1, hs.1.2.1, cell_kept hs.1.2.2.1 hg (fun r e => (hr r e).2), ownFrom_below (β := List (Mem (X : Int))) (Nat.le_refl _) (by omega) s A B row hs.1.2.2.2 hg hr⟩, ownFrom_keepsFrom (β := List (Mem (X : Int))) (by omega) s A B row hs.2 hg hr⟩)
              ⟨fun y hy => (by cases hy), Below.refl _ _⟩
              (fun y2 a'' _ => a'' = { tmps := #[.agg #[.int .i64 n, .slice a l.length cap], .int .i64 (V : Int), .int .i64 (S : Int), .pointer (some ⟨w.heap.size, 0, none⟩), undef, .pointer (some ⟨w.heap.size + 1, 0, none⟩), .pointer (some ⟨w.heap.size + 1 + 1, 0, none⟩), .pointer (some ⟨z, 0, none⟩), .pointer (some ⟨Bx, 0, none⟩), .int .i64 (y2.1 : Int), u10, u11, u12, u13, u14, u15, u16, u17, u18, u19, u20, u21, u22, u23, u24, u25, u26, u27, u28, u29, u30, u31, u32, .int .i64 (X : Int), .func (.func 160) #[] #[.pointer (some ⟨y0, 0, none⟩)], .int .i64 (i : Int), .int .i64 (X : Int), .func (.func 160) #[] #[.pointer (some ⟨y1, 0, none⟩)], .int .i64 (y2.1 : Int), u39, u40, u41, u42, u43, u44, u45, u46, u47, u48, u49, u50, u51], defers := [] })
              (fun _ _ _ _ _ _ hs _ _ => hs)
              ?assign2 ?body2 ?done2 ?stop2
            case assign2 =>
              intro l2 pre' y2 W' K hi hK
              gi_wp2
              exact hK _ _ (KeepsFrom.refl _ _) (Below.refl _ _) hi rfl
            case body2 =>
              rintro l2 pre' y2 a'' W' _ _ ⟨hpre', hB'⟩ rfl _
              obtain ⟨j, hj7, hjb⟩ := y2
              have hjl : j < l.length := bit_lt hXS ((bitAt_nat X j).1 hjb)
              have HBW2 := Lib.hid (HBW.out.trans ((HB6.out.trans (hB'.mono HB6.out.size)).mono HBW.out.size))
              have HBW0 := Lib.hid (HB5.out.trans (HBW2.out.mono HB5.out.size))
              obtain ⟨⟨c0, c1, cz⟩, cs, cr, cf, cI, cB, cZ⟩ := K.out W' HBW0.out
              have cx : W'.cell? ⟨Bx, 0, none⟩ = some (.int .i64 (i : Int)) := ((HB6.out.trans (hB'.mono HB6.out.size)).cell (p := ⟨Bx, 0, none⟩) hbXl).trans HBX.out
              have HBP := Lib.hid hB'
              have HPP := Lib.hid hpre'
              have HCB := Lib.hid cB
              clear hpre' hB' cI cB
              have hq0 : ∀ Y : Since W', Y.val.cell? ⟨w.heap.size, 0, none⟩ = some (.int .i64 n) := fun Y => (Y.prop.cell (p := ⟨w.heap.size, 0, none⟩) (by show w.heap.size < W'.heap.size; omega)).trans c0
              have hq1 : ∀ Y : Since W', Y.val.cell? ⟨w.heap.size, 1, none⟩ = some (.slice a l.length cap) := fun Y => (Y.prop.cell (p := ⟨w.heap.size, 1, none⟩) (by show w.heap.size < W'.heap.size; omega)).trans c1
              have hq2 : ∀ Y : Since W', Y.val.cell? ⟨w.heap.size + 1, 0, none⟩ = some (.int .i64 S) := fun Y => (Y.prop.cell (p := ⟨w.heap.size + 1, 0, none⟩) (by show w.heap.size + 1 < W'.heap.size; omega)).trans cs
              have hbx' : Bx < W'.heap.size := by have := HBP.out.size; omega
              have hq3 : ∀ Y : Since W', Y.val.cell? ⟨Bx, 0, none⟩ = some (.int .i64 (i : Int)) := fun Y => (Y.prop.cell (p := ⟨Bx, 0, none⟩) hbx').trans cx
              obtain ⟨P1, eP1, hP11, hP12⟩ : ∃ P, (2 : Int) ^ i = P ∧ 1 ≤ P ∧ P ≤ 128 := ⟨_, rfl, (shl_one' i (by omega)).2.2.2.2, (shl_one' i (by omega)).2.2.2.1⟩
              have g3 : IntKind.i64.wrap (1 * P1) = P1 := IntWalk.i64_in _ (by omega) |>.trans (by omega)
              have g4 : IntKind.i64.wrap P1 = P1 := IntWalk.i64_in _ (by omega)
              obtain ⟨P2, eP2, hP21, hP22⟩ : ∃ P, (2 : Int) ^ j = P ∧ 1 ≤ P ∧ P ≤ 128 := ⟨_, rfl, (shl_one' j (by omega)).2.2.2.2, (shl_one' j (by omega)).2.2.2.1⟩
              have g5 : IntKind.i64.wrap (1 * P2) = P2 := IntWalk.i64_in _ (by omega) |>.trans (by omega)
              have g6 : IntKind.i64.wrap P2 = P2 := IntWalk.i64_in _ (by omega)
              obtain ⟨C1, hC1⟩ : ∃ C, C = clsN l i := ⟨_, rfl⟩
              obtain ⟨C2, hC2⟩ : ∃ C, C = clsN l j := ⟨_, rfl⟩
              obtain ⟨D1, hD1⟩ : ∃ D, D = smN l S i := ⟨_, rfl⟩
              obtain ⟨D2, hD2⟩ : ∃ D, D = smN l S j := ⟨_, rfl⟩
              have k1 : bits .and .i64 (C1 : Int) (S : Int) = (D1 : Int) := by rw [hC1, hD1]; exact (bits_nat _ _ (cls_lt HG.out hil) hS7).1
              have k2 : bits .and .i64 (C2 : Int) (S : Int) = (D2 : Int) := by rw [hC2, hD2]; exact (bits_nat _ _ (cls_lt HG.out hjl) hS7).1
              have HCA : Hid (∀ (P : Int) (C k : Nat), (2 : Int) ^ k = P → C = clsN l k → k < l.length → ∀ Y : Since W', Calls Try.prog 128 #[.agg #[.int .i64 n, .slice a l.length cap], .int .i64 P] Y.val fun e w' => e = .returned (.int .i64 C) ∧ Below Y.val.heap.size Y.val w') := fun P C k hP hC hk Y => by
                have ePn : P = ((2 ^ k : Nat) : Int) := by rw [← hP]; push_cast; rfl
                have := implAround n _ l P _ (K.out Y.val (HBW0.out.trans (Y.prop.mono HBW0.out.size))).2.2.2.2.1
                rw [ePn, around_one HG.out hk, ← hC] at this
                rw [ePn]
                exact this
              have HC1 := Lib.hid (HCA.out P1 C1 i eP1 hC1 hil)
              have HC2 := Lib.hid (HCA.out P2 C2 j eP2 hC2 hjl)
              obtain ⟨b, hb⟩ : ∃ b, b = ovS (D1 : Int) (D2 : Int) := ⟨_, rfl⟩
              have HBE := Lib.hid (show ovS (smN l S i : Nat) (smN l S j : Nat) = b by rw [hb, hD1, hD2])
              have HBO := Lib.hid hb
              clear hC1 hC2 hD1 hD2 hb c0 c1 cx HCA
              gi_wp2_with fail
              refine wpIn_region_since_tailF (show Open ((Fence.wide.inRound li).inRound l2) from open_round l2) 12 hmix (by kernel_rfl) (by kernel_rfl) ?_
              simp only [List.take_succ_cons, List.take_zero, List.drop_succ_cons, List.drop_zero]
              repeat (go_big_quiet_step (first | with_reducible exact since_call (HC1.out _) | with_reducible exact since_call (HC2.out _)))
              refine wpQuiet_nil ?_
              intro Y
              obtain ⟨wq, hwq⟩ : ∃ wq, wq = Y.val := ⟨_, rfl⟩
              have HQ0 := Lib.hid (show Below W'.heap.size W' wq by rw [hwq]; exact Y.prop)
              rw [← hwq]
              clear hwq hq0 hq1 hq2 hq3 cs cr cf cz cZ
              gi_wp2_with fail
              refine ⟨trivial, (CallsIn.inRound l2 (callsIn_wide.2 (over_is (D1 : Int) (D2 : Int) _))).mono ?_⟩
              rintro e wo ⟨rfl, hbo⟩
              rw [← HBO.out]
              have HQ := Lib.hid (HQ0.out.trans (hbo.mono HQ0.out.size))
              have HQK := Lib.hid (HBW0.out.trans (HQ.out.mono HBW0.out.size))
              obtain ⟨⟨-, -, -⟩, -, cr, cf, -, cB, cZ⟩ := K.out wo HQK.out
              have HCB2 := Lib.hid cB
              clear hbo cB
              cases b with
              | false =>
                gi_wp2
                refine ⟨(KeepsOthers.ofBelow HQ.out).from _, HQ.out.mono HBP.out.size, ⟨fun a ha => ?_, HBP.out.trans (HQ.out.mono HBP.out.size)⟩⟩
                rcases List.mem_append.1 ha with ha | ha
                · exact HPP.out a ha
                · simp at ha
                  subst ha
                  exact HBE.out
              | true =>
                gi_wp2
                refine ⟨((KeepsOthers.ofBelow HQ.out).from _).trans ((KeepsOthers.setCell _ _ _).from _), ⟨⟨rfl, ⟨⟨j, hj7, hjb⟩, by simp, HBE.out⟩, World.cell?_setCell_same' _ _ _ (by rw [cr]; rfl), HCB2.out.setCell (by simp <;> omega) _⟩, ?_⟩⟩
                exact ((KeepsOthers.ofBelow ((HB6.out.trans (HBP.out.mono HB6.out.size)).trans (HQ.out.mono (by have := HB6.out.size; have := HBP.out.size; omega)))).from _).trans ((KeepsOthers.setCell _ _ _).from _)
            case done2 =>
              rintro ys W' hys ⟨hall, hB'⟩
              have HBP := Lib.hid (HB6.out.trans (hB'.mono HB6.out.size))
              have HAL := Lib.hid hall
              have HYS := Lib.hid hys
              clear hB' hall hys
              gi_wp2
              refine ⟨(KeepsOthers.ofBelow HBP.out).from _, HBP.out.mono HBW.out.size, ⟨fun a ha b hb => ?_, HBW.out.trans (HBP.out.mono HBW.out.size)⟩⟩
              rcases List.mem_append.1 ha with ha | ha
              · exact HPRE.out a ha b hb
              · simp at ha
                subst ha
                rw [← memU_nat, ← HYS.out] at hb
                obtain ⟨y, hy, rfl⟩ := List.mem_map.1 hb
                exact HAL.out y hy
            case stop2 =>
              rintro c pre' W' hpre' ⟨⟨rfl, ⟨a, ha, hab⟩, hcr, hBw⟩, hKF⟩
              gi_wp2
              refine ⟨hKF, ⟨rfl, ⟨⟨i, hi7, hib⟩, by simp, a.1, ?_, hab⟩, hcr, hBw⟩⟩
              have hb := (bitAt_nat X a.1).1 a.2.2
              unfold memN
              simp [hb]
              exact a.2.1
          case done =>
            rintro D ys W hD hys ⟨hall, hB⟩ hK
            obtain ⟨⟨-, -, -⟩, -, cr, cf, -, cB, cZ⟩ := K.out W (HB5.out.trans (hB.mono HB5.out.size))
            have HN := Lib.hid (show SimP n l (V : Int) (S : Int) from ⟨HS.out, HX.out, by rw [Int.toNat_natCast]; exact HT.out.symm, by
              rw [Int.toNat_natCast, Int.toNat_natCast]
              intro a ha b hb
              rw [← HXE.out] at ha hb
              have ha' := ha
              rw [← memU_nat, ← hys] at ha'
              obtain ⟨y, hy, rfl⟩ := List.mem_map.1 ha'
              exact hall y hy b hb⟩)
            have HDB := Lib.hid cB
            clear hall hB cB hys
            gi_wp2
            have hK' := (KeepsOthers.setCell W ⟨w.heap.size + 1 + 1, 0, none⟩ (.bool true)).same D _ hK rfl
            refine ⟨by simp, .inl ⟨_, _, rfl, run_takeDeferred hK', ?_⟩⟩
            have hc5 := cell_kept (World.cell?_setCell_same' W ⟨w.heap.size + 1 + 1, 0, none⟩ (.bool true) (by rw [cr]; rfl)) (grownBy_putObj' _ D (.deferred none)) (fun r e => by cases e; exact ⟨_, hK', rfl⟩)
            refine ⟨.bool true, by simp [results, Try.f71, go_sem, hc5], SaysB.yes HN.out ((HDB.out.setCell (p := ⟨w.heap.size + 1 + 1, 0, none⟩) (by simp <;> omega) _).trans (belowK_b (w := w) (Nat.le_refl _) _ D _ _ (by omega) hK' rfl rfl))⟩
          case stop =>
            rintro D c pre W hD hpre ⟨rfl, ⟨a, ha, b, hb, hab⟩, hcr, hB⟩ hK
            have HB := Lib.hid hB
            have HN := Lib.hid (show ¬ SimP n l (V : Int) (S : Int) from fun h => by
              have h4 := h.2.2.2
              rw [Int.toNat_natCast, Int.toNat_natCast] at h4
              unfold SimOk at h4
              rw [← HXE.out] at h4
              have hm : a.1 ∈ memN X := by
                have hb := (bitAt_nat X a.1).1 a.2.2
                unfold memN
                simp [hb]
                exact a.2.1
              rw [h4 a.1 hm b hb] at hab
              cases hab)
            clear hB hab
            gi_wp2
            refine ⟨by simp, .inl ⟨_, _, rfl, run_takeDeferred hK, ?_⟩⟩
            have hc5 := cell_kept hcr (grownBy_putObj' _ D (.deferred none)) (fun r e => by cases e; exact ⟨_, hK, rfl⟩)
            refine ⟨.bool false, by simp [results, Try.f71, go_sem, hc5], SaysB.no HN.out (HB.out.trans (belowK_b (w := w) (Nat.le_refl _) W D _ _ (by omega) hK rfl rfl))⟩
    · have HN := Lib.hid (show ¬ SimP n l x s from fun h => hx h.2.1)
      gi_wp2_with fail
      refine ⟨trivial, (callsIn_wide.2 (hasVertex_no n _ l x _ HCI.out hx)).mono ?_⟩
      rintro e w2 ⟨rfl, hb⟩
      obtain ⟨⟨c0, c1, cz⟩, cs, cr, cf, cI, cB, cZ⟩ := K.out w2 (HB1.out.trans (hb.mono HB1.out.size))
      clear cI hx
      gi_wp2
      refine ⟨.bool false, by simp [results, Try.f71, go_sem, World.cell?_setCell_same' w2 ⟨w.heap.size + 1 + 1, 0, none⟩ (.bool false) (by rw [cr]; rfl)], SaysB.no HN.out ?_⟩
      exact cB.setCell (by simp <;> omega) _

end Go.Proofs.Ytpifgmmmmhenmaa
