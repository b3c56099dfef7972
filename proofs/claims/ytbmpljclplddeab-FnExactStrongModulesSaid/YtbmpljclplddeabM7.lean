/- IsModule. -/
import Derived.Test.YtbmpljclplddeabM2
import Derived.Test.YtbmpljclplddeabI2
import Derived.Test.YtbmpljclplddeabV5
import Derived.Test.YtbmpljclplddeabV6
import Derived.Test.YtbmpljclplddeabV4
import Derived.Sort.CutIn
import Derived.Deep.RegionWith
import Derived.Deep.RegionHeld3
namespace Go.Proofs.Ytbmpljclplddeab
set_option linter.unusedVariables false
set_option linter.unusedSimpArgs false
open Go.RowKit Go.Shelf

set_option maxHeartbeats 2000000 in
set_option maxRecDepth 100000 in
theorem specMod (n : Int) (v : Value) (l : List Int) (x : Int) (w : World) (h : Ints w v l) :
    Calls Try.prog 130 #[.agg #[.int .i64 n, v], .int .i64 x] w (SaysB (ModS n l x) w) := by
  obtain ⟨a, cap, rfl, -, -⟩ := h.form
  have HA := argG' (T := 33) (n := n) h
  have HI := Lib.hid h
  clear h
  go_enter Try.func130, Try.ntmps130
  go_wp2_with fail
  refine (specIsSet n _ l x _ (HI.out.alloc _)).mono ?_
  rintro e w1 ⟨r, rfl, hr, hb⟩
  have HB := Lib.hid (hb.mono (B' := w.heap.size + 1) (by simp))
  clear hb
  obtain ⟨c0, c1, -, -, hz⟩ := HA.out _ HB.out
  cases r with
  | false =>
    have hno : ¬ IsS n l x := by simpa using hr
    have HN := Lib.hid hno
    clear hr hno
    go_wp2
    go_ret
    exact SaysB.no (fun hg => HN.out hg.1) (HA.out _ HB.out).2.2.2.1
  | true =>
    have HG := Lib.hid (hr.1 rfl)
    clear hr
    by_cases h0 : x = 0
    · have q0 : (x == 0) = true := by simp [h0]
      have H0 := Lib.hid h0
      clear h0
      go_wp2
      go_ret
      exact SaysB.no (fun hg => hg.2.1 H0.out) (HA.out _ HB.out).2.2.2.1
    · have q0 : (x == 0) = false := by simp [h0]
      obtain ⟨X, hXx⟩ : ∃ X, X = x.toNat := ⟨_, rfl⟩
      have hxn := HG.out.nat
      have HF := Lib.hid (mod_first HG.out h0)
      rw [← hXx] at hxn HF
      obtain ⟨rfl, hX2, hl7⟩ := hxn
      have hX7 : X < 128 := Nat.lt_of_lt_of_le hX2 (two_le _ hl7)
      have HX2 := Lib.hid hX2
      obtain ⟨m, hm⟩ : ∃ m, m = (memN X).length := ⟨_, rfl⟩
      rw [← hm] at HF
      have hm7 : m ≤ 7 := by rw [hm]; exact mem_len_le X
      have hm1 : 1 ≤ m := by
        have := (low_facts X (by omega) hX7).2.2.1
        omega
      have HLR := Lib.hid (show (listR (X : Int)).length = m by rw [hm]; exact listR_len hX7)
      have HNT : Hid (∀ i, i < m → nth (listR (X : Int)) i = (klN X i : Int) ∧ klN X i < l.length ∧ klN X i < 7) := fun i hi => by
        rw [hm] at hi
        exact ⟨listR_nth hX7 hi, kl_lt hX2 hi, (kl_bit hi).1⟩
      clear hXx hX2 hm h0 c0 c1 hz
      go_wp2_with fail
      refine (specListOf X _).mono ?_
      rintro e w2 ⟨vk, rfl, ho, hb⟩
      have HB2 := Lib.hid (HB.out.trans (hb.mono (HA.out _ HB.out).2.2.2.2))
      obtain ⟨bk, offk, capk, rfl, -, hmk, hbk, -⟩ := ho.ints.pos (by rw [HLR.out]; omega)
      have HK := Lib.hid ho.ints
      unfold maxLen at hmk
      clear ho hb
      rw [HLR.out] at HK ⊢
      have K : Hid (∀ W, Below w2.heap.size w2 W → W.cell? ⟨w.heap.size, 0, none⟩ = some (.int .i64 n) ∧ W.cell? ⟨w.heap.size, 1, none⟩ = some (.slice a l.length cap) ∧ Ints W (.slice a l.length cap) l ∧ Below w.heap.size w W ∧ (∀ j, j < m → W.cell? ⟨bk, offk + j, none⟩ = some (.int .i64 (klN X j)))) := fun W hb => by
        obtain ⟨c0, c1, cI, cB, hz⟩ := HA.out _ (HB2.out.trans (hb.mono (HA.out _ HB2.out).2.2.2.2))
        refine ⟨c0, c1, cI, cB, fun j hj => ?_⟩
        obtain ⟨b', off', cap', hv, _, _, _, hc⟩ := (HK.out.on hb).pos (by rw [HLR.out]; omega)
        simp only [Value.slice.injEq, Option.some.injEq, Addr.mk.injEq, and_true] at hv
        obtain ⟨⟨rfl, rfl⟩, -, -⟩ := hv
        rw [hc j (by rw [HLR.out]; exact hj), (HNT.out j hj).1]
      clear HB2 HK
      go_wp2
      go_loopw [6] (fun i wr => ∃ k : Nat, 1 ≤ k ∧ k ≤ m ∧ i = .int .i64 k ∧ Hid (∀ i, i < k → 1 ≤ i → offN (rowN l (klN X i)) X = offN (rowN l (klN X 0)) X) ∧ Below w2.heap.size w2 wr) (fun i _ => m - (intOf i).toNat)
      case atStart => exact ⟨1, by omega, by omega, rfl, fun i hi h1 => absurd hi (by omega), Below.refl _ _⟩
      case round =>
        obtain ⟨k, hk1, hk, rfl, HJ, hbel⟩ := hrel
        obtain ⟨c0, c1, cI, cB, cK⟩ := K.out _ hbel
        have HBL := Lib.hid hbel
        have HCB := Lib.hid cB
        clear hbel cB
        by_cases hlt : k < m
        · have e0 := cK k hlt
          have e1 := cK 0 (by omega)
          rw [Nat.add_zero] at e1
          obtain ⟨-, p1, p2⟩ := HNT.out k hlt
          obtain ⟨-, p3, p4⟩ := HNT.out 0 (by omega)
          obtain ⟨b', off', cap', hv, _, hmx, hb', hcell⟩ := cI.pos (by omega)
          simp only [Value.slice.injEq] at hv
          obtain ⟨rfl, -, rfl⟩ := hv
          have r0 := hcell _ p1
          have r1 := hcell _ p3
          have HLT : Hid (offN (rowN l (klN X k)) X = offN (rowN l (klN X 0)) X → ∀ i, i < k + 1 → 1 ≤ i → offN (rowN l (klN X i)) X = offN (rowN l (klN X 0)) X) := fun hh i hi h1 => by
            rcases Nat.lt_or_ge i k with h | h
            · exact HJ.out i h h1
            · obtain rfl : i = k := by omega
              exact hh
          have HBK : Hid (ModS n l X → offN (rowN l (klN X k)) X = offN (rowN l (klN X 0)) X) := fun hh => HF.out.1 hh k hlt hk1
          obtain ⟨kk, hkk⟩ : ∃ kk, kk = klN X k := ⟨_, rfl⟩
          obtain ⟨k0, hk0⟩ : ∃ k0, k0 = klN X 0 := ⟨_, rfl⟩
          rw [← hkk, ← hk0] at HBK
          have HKK := Lib.hid hkk
          rw [← hkk] at e0 p1 p2 r0
          rw [← hk0] at e1 p3 p4 r1
          have HK0 := Lib.hid hk0
          have f0 := off_facts (rowN l kk) X (row_small HG.out.1 p1) hX7
          have f1 := off_facts (rowN l k0) X (row_small HG.out.1 p3) hX7
          have g0 := (HG.out.1.row_lt kk p1).2
          have g1 := (HG.out.1.row_lt k0 p3).2
          rw [g0] at r0
          rw [g1] at r1
          obtain ⟨A, hA⟩ : ∃ A, A = rowN l kk := ⟨_, rfl⟩
          obtain ⟨B, hB⟩ : ∃ B, B = rowN l k0 := ⟨_, rfl⟩
          rw [← hA] at f0 r0 HBK
          have HA0 := Lib.hid hA
          rw [← hB] at f1 r1 HBK
          have HB0 := Lib.hid hB
          obtain ⟨-, f02, f03, f04, f05⟩ := f0
          obtain ⟨-, f12, f13, f14, f15⟩ := f1
          obtain ⟨U, hU⟩ : ∃ U, U = bits .or .i64 (A : Int) (X : Int) := ⟨_, rfl⟩
          obtain ⟨V, hV⟩ : ∃ V, V = bits .or .i64 (B : Int) (X : Int) := ⟨_, rfl⟩
          rw [← hU] at f02 f04 f05
          rw [← hV] at f12 f14 f15
          have u1 : bits .or .i64 (A : Int) (X : Int) = U := hU.symm
          have u2 : bits .or .i64 (B : Int) (X : Int) = V := hV.symm
          have u3 : IntKind.i64.wrap (U - (X : Int)) = U - (X : Int) := IntWalk.i64_in _ (by omega)
          have u4 : IntKind.i64.wrap (V - (X : Int)) = V - (X : Int) := IntWalk.i64_in _ (by omega)
          have HFF := Lib.hid (And.intro f02 f12)
          unfold maxLen at hmx
          clear hcell hkk hk0 g0 g1 hA hB hU hV f02 f12 cI cK f03 f13
          by_cases hq : U - (X : Int) = V - (X : Int)
          · have q1 : (U - (X : Int) == V - (X : Int)) = true := by simp [hq]
            have q2 : (U - (X : Int) != V - (X : Int)) = false := by simp [hq]
            have HQ := Lib.hid (HLT.out (by have h1 := HFF.out.1; have h2 := HFF.out.2; rw [← HKK.out, ← HA0.out, ← HK0.out, ← HB0.out]; omega))
            clear hq
            go_wp2
            go_quiet (fail)
            go_wp2
            go_roundw
            case rel => exact ⟨k + 1, by omega, by omega, by go_num, HQ, below_drewN HBL.out _⟩
            case measure => simp [intOf]; omega
          · have q1 : (U - (X : Int) == V - (X : Int)) = false := by simpa using hq
            have q2 : (U - (X : Int) != V - (X : Int)) = true := by simpa using hq
            have HQ := Lib.hid hq
            clear hq
            go_wp2
            go_quiet (fail)
            go_wp2
            go_ret
            exact SaysB.no (fun hg => HQ.out (by have h1 := HFF.out.1; have h2 := HFF.out.2; have h3 := HBK.out hg; rw [h1, h2, h3])) (below_drewN HCB.out _)
        · obtain rfl : k = m := by omega
          clear cI cK
          go_wp2
          go_ret
          exact SaysB.yes (HF.out.2 fun i hi h1 => HJ.out i hi h1) HCB.out

attribute [local go_sem] Oper.semAt_some

/-- Between two rounds: those that have come have what the set has around it. -/
def ModI (l : List Int) (X : Nat) (w2 : World) (pre : List (Mem (X : Int))) (W : World) : Prop := (∀ y ∈ pre, offN (rowN l y.1) X = offN (aroundN (rowN l) X) X) ∧ Below w2.heap.size w2 W

/-- A round has left: the last one has something else. -/
def ModX (l : List Int) (X : Nat) (b : Nat) (w : World) (c : Code) (pre : List (Mem (X : Int))) (W : World) : Prop := c = .ret ∧ (∃ y ∈ pre, offN (rowN l y.1) X ≠ offN (aroundN (rowN l) X) X) ∧ W.cell? ⟨b + 1 + 1, 0, none⟩ = some (.bool false) ∧ Below w.heap.size w W

set_option maxHeartbeats 4000000 in
set_option maxRecDepth 100000 in
theorem implMod (n : Int) (v : Value) (l : List Int) (x : Int) (w : World) (h : Ints w v l) :
    Calls Try.prog 100 #[.agg #[.int .i64 n, v], .int .i64 x] w (SaysB (ModS n l x) w) := by
  obtain ⟨a, cap, rfl, -, -⟩ := h.form
  have HI := Lib.hid h
  clear h
  refine (callsIn_wide (n := 4)).1 ?_
  refine callsIn_of_wp_marks Try.func100 rfl trivial ?_ rfl
  simp only [Try.ntmps100, List.size_toArray, List.length_cons, List.length_nil, Nat.reduceAdd, Nat.reduceSub, Array.replicate_succ, Array.replicate_zero, List.push_toArray, List.append_toArray, List.nil_append, List.cons_append]
  have BX := Lib.hid (((BoxG.new w 33 n (.slice a l.length cap) ⟨_, _, _, rfl⟩).keep (grown_alloc _ (.cells #[.int .i64 x] 3) none) (by simp)).keep (grown_alloc _ (.cells #[.bool false] 4) none) (by simp))
  have II := Lib.hid (((HI.out.alloc (.cells #[.int .i64 n, .slice a l.length cap] 33)).alloc (.cells #[.int .i64 x] 3)).alloc (.cells #[.bool false] 4))
  have BB := Lib.hid ((((Below.refl _ w).alloc (Nat.le_refl _) (.cells #[.int .i64 n, .slice a l.length cap] 33)).alloc (by simp) (.cells #[.int .i64 x] 3)).alloc (by simp <;> omega) (.cells #[.bool false] 4))
  obtain ⟨W0, hW0⟩ : ∃ W0, W0 = ((w.alloc (.cells #[.int .i64 n, .slice a l.length cap] 33)).alloc (.cells #[.int .i64 x] 3)).alloc (.cells #[.bool false] 4) := ⟨_, rfl⟩
  have S0 : W0.cell? ⟨w.heap.size + 1, 0, none⟩ = some (.int .i64 x) := by rw [hW0]; simp [go_sem]
  have R0 : W0.cell? ⟨w.heap.size + 1 + 1, 0, none⟩ = some (.bool false) := by rw [hW0]; simp [go_sem]
  have R1 : W0.frozen? ⟨w.heap.size + 1 + 1, 0, none⟩ = false := by rw [hW0]; simp [go_sem]
  have Z0 : W0.heap.size = w.heap.size + 3 := by rw [hW0]; simp
  rw [← hW0] at BX II BB
  gi_wp2_with fail
  rw [← hW0]
  refine ⟨trivial, (callsIn_wide.2 (implIsSet n _ l x _ II.out)).mono ?_⟩
  rintro e w1 ⟨r, rfl, hr, hb⟩
  clear hW0
  have BX1 := Lib.hid (BX.out.keep (below_grown hb) (by simp))
  have II1 := Lib.hid (II.out.on hb)
  have BB1 := Lib.hid (BB.out.trans (hb.mono BB.out.size))
  have S1 : w1.cell? ⟨w.heap.size + 1, 0, none⟩ = some (.int .i64 x) := (hb.cell (p := ⟨w.heap.size + 1, 0, none⟩) (by show w.heap.size + 1 < W0.heap.size; omega)).trans S0
  have T1 : w1.cell? ⟨w.heap.size + 1 + 1, 0, none⟩ = some (.bool false) := (hb.cell (p := ⟨w.heap.size + 1 + 1, 0, none⟩) (by show w.heap.size + 1 + 1 < W0.heap.size; omega)).trans R0
  have U1 : w1.frozen? ⟨w.heap.size + 1 + 1, 0, none⟩ = false := (hb.frozen (p := ⟨w.heap.size + 1 + 1, 0, none⟩) (by show w.heap.size + 1 + 1 < W0.heap.size; omega)).trans R1
  have Z1 : w.heap.size + 3 ≤ w1.heap.size := by have := hb.size; omega
  clear hb S0 R0 R1 Z0 BX II BB
  obtain ⟨c0, c1, cz⟩ := BX1.out
  cases r with
  | false =>
    have HN := Lib.hid (show ¬ IsS n l x by simpa using hr)
    clear hr
    gi_wp2
    refine ⟨.bool false, by simp [results, Try.f100, go_sem, T1], SaysB.no (fun h => HN.out h.1) ?_⟩
    exact BB1.out.setCell (by simp <;> omega) _
  | true =>
    have HG := Lib.hid (hr.1 rfl)
    clear hr
    by_cases h0 : x = 0
    · have q0 : (x == 0) = true := by simp [h0]
      have H0 := Lib.hid h0
      clear h0
      gi_wp2
      refine ⟨.bool false, by simp [results, Try.f100, go_sem, T1], SaysB.no (fun h => h.2.1 H0.out) ?_⟩
      exact BB1.out.setCell (by simp <;> omega) _
    · have q0 : (x == 0) = false := by simp [h0]
      have HMA := Lib.hid (mod_around HG.out h0)
      obtain ⟨X, hXx⟩ : ∃ X, X = x.toNat := ⟨_, rfl⟩
      have hxn := HG.out.nat
      rw [← hXx] at hxn HMA
      obtain ⟨rfl, hX2, hl7⟩ := hxn
      have hX7 : X < 128 := Nat.lt_of_lt_of_le hX2 (two_le _ hl7)
      have ha7 := around_small HG.out.1 hX2
      have har : aroundR n l (X : Int) = ((aroundN (rowN l) X : Nat) : Int) := by
        unfold aroundR
        rw [if_pos HG.out, Int.toNat_natCast]
      have HX2 := Lib.hid hX2
      have HOF := off_facts (aroundN (rowN l) X) X ha7 hX7
      obtain ⟨N, hN⟩ : ∃ N, N = offN (aroundN (rowN l) X) X := ⟨_, rfl⟩
      obtain ⟨AR, hAR⟩ : ∃ AR, AR = aroundN (rowN l) X := ⟨_, rfl⟩
      rw [← hN, ← hAR] at HOF
      rw [← hAR] at har ha7
      have e1 : bits .andNot .i64 (AR : Int) (X : Int) = (N : Int) := HOF.1
      have hN7 : N < 128 := HOF.2.2.1
      have HNN := Lib.hid hN
      have HAR := Lib.hid har
      clear hXx hX2 h0 HOF hN hAR har
      have hz1 : w.heap.size + 1 < w1.heap.size := by omega
      clear ha7 hN7 hl7
      gi_upto_region 3 with fail
      gi_cut [5] from 7 (fun q wx => ∃ k, q = .pointer (some ⟨k, 0, none⟩) ∧ Below w1.heap.size w1 wx ∧ w1.heap.size ≤ k ∧ k < wx.heap.size ∧ wx.cell? ⟨k, 0, none⟩ = some (.int .i64 N))
      case first =>
        refine wpIn_mono (Q := NoPanic _) ?_ NoPanic.imp
        gi_region_with (first
          | (refine ⟨trivial, (callsIn_wide.2 (implAround n _ l X _ (II1.out.on (Below.refl _ _).drew))).mono ?_⟩; rintro e w2 ⟨rfl, hb⟩; rw [HAR.out]; have s2 : w2.cell? ⟨w.heap.size + 1, 0, none⟩ = some (.int .i64 X) := (hb.cell (p := ⟨w.heap.size + 1, 0, none⟩) (by show w.heap.size + 1 < w1.heap.size; omega)).trans S1; have s5 : w.heap.size + 1 < w2.heap.size := Nat.lt_of_lt_of_le (by show w.heap.size + 1 < w1.heap.size; omega) hb.size)
          | (refine ⟨trivial, (callsIn_wide.2 (implAround n _ l X _ (II1.out.on ((Below.refl _ _).alloc (Nat.le_refl _) _).drew))).mono ?_⟩; rintro e w2 ⟨rfl, hb⟩; rw [HAR.out]; have s2 : w2.cell? ⟨w.heap.size + 1, 0, none⟩ = some (.int .i64 X) := (hb.cell (p := ⟨w.heap.size + 1, 0, none⟩) (by simp <;> omega)).trans (((Below.refl _ w1).alloc (Nat.le_refl _) _).drew.cell (p := ⟨w.heap.size + 1, 0, none⟩) (by show w.heap.size + 1 < w1.heap.size; omega) |>.trans S1); have s3 : w2.cell? ⟨w1.heap.size, 0, none⟩ = some (.int .i64 0) := (hb.cell (p := ⟨w1.heap.size, 0, none⟩) (by simp)).trans (by simp [go_sem]); have s4 : w2.frozen? ⟨w1.heap.size, 0, none⟩ = false := (hb.frozen (p := ⟨w1.heap.size, 0, none⟩) (by simp)).trans (by simp [go_sem]); have s5 : w.heap.size + 1 < w2.heap.size := Nat.lt_of_lt_of_le (by simp <;> omega) hb.size))
        all_goals refine NoPanic.normal ?_
        all_goals gi_wp2_with fail
        all_goals gi_meet
        all_goals first
          | exact ⟨w2.heap.size, rfl, ((Below.refl _ w1).drew.trans hb).alloc hb.size _, hb.size, by simp, by simp [go_sem]⟩
          | exact ⟨w1.heap.size, rfl, (((Below.refl _ w1).alloc (Nat.le_refl _) _).drew.trans (hb.mono (by simp))).setCell (p := ⟨w1.heap.size, 0, none⟩) (Nat.le_refl _) _, Nat.le_refl _, by have := hb.size; simp at this ⊢; omega, World.cell?_setCell_same _ _ _ s3⟩
      case rest =>
        obtain ⟨q, rfl, hbq, hq1, hq2, hqc⟩ := hcut
        have BX2 := Lib.hid (BX1.out.keep (below_grown hbq) (by simp))
        have II2 := Lib.hid (II1.out.on hbq)
        have BB2 := Lib.hid (BB1.out.trans (hbq.mono BB1.out.size))
        have S2 : wc.cell? ⟨w.heap.size + 1, 0, none⟩ = some (.int .i64 X) := (hbq.cell (p := ⟨w.heap.size + 1, 0, none⟩) (by show w.heap.size + 1 < w1.heap.size; omega)).trans S1
        have T2 : wc.cell? ⟨w.heap.size + 1 + 1, 0, none⟩ = some (.bool false) := (hbq.cell (p := ⟨w.heap.size + 1 + 1, 0, none⟩) (by show w.heap.size + 1 + 1 < w1.heap.size; omega)).trans T1
        have U2 : wc.frozen? ⟨w.heap.size + 1 + 1, 0, none⟩ = false := (hbq.frozen (p := ⟨w.heap.size + 1 + 1, 0, none⟩) (by show w.heap.size + 1 + 1 < w1.heap.size; omega)).trans U1
        have Z2 : w.heap.size + 3 ≤ wc.heap.size := Nat.le_trans Z1 hbq.size
        have hq0 : w.heap.size + 3 ≤ q := Nat.le_trans Z1 hq1
        clear hbq S1 T1 U1 Z1 BX1 II1 BB1 c0 c1 cz hz1 hq1
        obtain ⟨W2, hW2⟩ : ∃ W2, W2 = wc.alloc (.cells #[.int .i64 X] 3) := ⟨_, rfl⟩
        have K : Hid (∀ W, Below W2.heap.size W2 W → W.cell? ⟨w.heap.size + 1, 0, none⟩ = some (.int .i64 X) ∧ BoxG w.heap.size n (.slice a l.length cap) W ∧ W.cell? ⟨w.heap.size + 1 + 1, 0, none⟩ = some (.bool false) ∧ W.frozen? ⟨w.heap.size + 1 + 1, 0, none⟩ = false ∧ Ints W (.slice a l.length cap) l ∧ Below w.heap.size w W ∧ w.heap.size + 3 ≤ W.heap.size ∧ W.cell? ⟨q, 0, none⟩ = some (.int .i64 N)) := fun W hb => by
          have hg : wc.grownBy W none := grown_trans (by rw [hW2]; exact grown_alloc wc _ none) (below_grown hb)
          obtain ⟨hc, hf⟩ := gcell hg
          refine ⟨by rw [hc _ _ (by omega) (by simp)]; exact S2, BX2.out.keep hg (by simp), by rw [hc _ _ (by omega) (by simp)]; exact T2, by rw [hf _ _ (by omega) (by simp)]; exact U2, II2.out.on ⟨hg.os, hg.tape, hg.output, hg.size, fun k hk => hg.block k hk (by simp)⟩, BB2.out.grown hg BB2.out.size (fun k hk => by simp at hk), Nat.le_trans Z2 hg.size, by rw [hc _ _ hq2 (by simp)]; exact hqc⟩
        have hcB : W2.cell? ⟨wc.heap.size, 0, none⟩ = some (.int .i64 X) := by rw [hW2]; simp [go_sem]
        have hz2 : W2.heap.size = wc.heap.size + 1 := by rw [hW2]; simp
        gi_wp2_with fail
        refine ⟨trivial, (callsIn_wide.2 (verticesIn_is X _)).mono ?_⟩
        rintro e w2 ⟨rfl, hw2⟩
        obtain rfl : w2 = W2 := by rw [hW2]; exact hw2.symm
        clear hw2 hW2 S2 T2 U2
        gi_wp2_with fail
        refine wpIn_rangeFunc_ownF (w0 := w2) rfl (by omega) (gf := 116) (lb := #[.pointer (some ⟨wc.heap.size, 0, none⟩)]) rfl trivial (enters_of Try.func116 (by kernel_rfl) rfl)
          (vin_stops Fence.wide 3 trivial rfl (by omega) wc.heap.size w2.heap.size X w2 (by omega) (by omega) hcB) belowK_t (belowK_b (Nat.le_refl _)) (Below.refl _ _) (fun _ => rfl)
          (ModI l X w2) (ModX l X w.heap.size w)
          (fun s A B row hs hg hr => ⟨hs.1, ownFrom_below (β := List (Mem (X : Int))) (Nat.le_refl _) (Nat.le_refl _) s A B row hs.2 hg hr⟩)
          (fun c s A B row hs hg hr => ⟨hs.1, hs.2.1, cell_kept hs.2.2.1 hg (fun r e => (hr r e).2), ownFrom_below (β := List (Mem (X : Int))) (Nat.le_refl _) (by omega) s A B row hs.2.2.2 hg hr⟩)
          ⟨fun y hy => (by cases hy), Below.refl _ _⟩
          (fun y => { tmps := #[.agg #[.int .i64 n, .slice a l.length cap], .int .i64 X, .pointer (some ⟨w.heap.size, 0, none⟩), .pointer (some ⟨w.heap.size + 1, 0, none⟩), .pointer (some ⟨w.heap.size + 1 + 1, 0, none⟩), .pointer (some ⟨q, 0, none⟩), .int .i64 (y.1 : Int), u7, u8, u9, u10, u11, u12, u13, u14, u15, u16, u17, u18, u19, .int .i64 X, .func (.func 116) #[] #[.pointer (some ⟨wc.heap.size, 0, none⟩)], .int .i64 (y.1 : Int), u23, u24, u25, u26, u27, u28, u29, u30, u31], defers := [] }) ?assign ?body ?done ?stop
        case assign =>
          intro l y W K hK
          gi_wp2
          exact hK
        case body =>
          rintro li pre y W ⟨hpre, hB⟩ hlen
          obtain ⟨d0, ⟨d1, d2, dz⟩, d3, d4, dI, dB, dZ, dN⟩ := K.out W hB
          obtain ⟨k, hk7, hkb⟩ := y
          have hkl : k < l.length := bit_lt HX2.out ((bitAt_nat X k).1 hkb)
          obtain ⟨b', off', cap', hv, _, hmx, hb', hcell⟩ := dI.pos (by omega)
          simp only [Value.slice.injEq] at hv
          obtain ⟨rfl, -, rfl⟩ := hv
          have r0 := hcell k hkl
          rw [(HG.out.1.row_lt k hkl).2] at r0
          have f0 := off_facts (rowN l k) X (row_small HG.out.1 hkl) hX7
          obtain ⟨A, hA⟩ : ∃ A, A = rowN l k := ⟨_, rfl⟩
          rw [← hA] at r0 f0
          obtain ⟨T, hT⟩ : ∃ T, T = offN A X := ⟨_, rfl⟩
          have e2 : bits .andNot .i64 (A : Int) (X : Int) = (T : Int) := by rw [hT]; exact f0.1
          have HAA := Lib.hid hA
          have HTT := Lib.hid hT
          have HPRE := Lib.hid hpre
          have HBW := Lib.hid hB
          have HDB := Lib.hid dB
          unfold maxLen at hmx
          clear hcell hpre hB dB dI f0 hA hT e1
          have hmix : Try.prog.follows .mixedOrders = true := by kernel_rfl
          by_cases h0 : T = N
          · have q1 : ((T : Int) == (N : Int)) = true := by simp [h0]
            have q2 : ((T : Int) != (N : Int)) = false := by simp [h0]
            have H0 := Lib.hid h0
            clear h0
            gi_wp2
            refine wpIn_region_still_tail 8 hmix (by kernel_rfl) (by kernel_rfl) ?_
            simp only [List.take_succ_cons, List.take_zero, List.drop_succ_cons, List.drop_zero]
            repeat still_step
            refine wpStill_nil ?_
            gi_wp2
            refine ⟨KeepsOthers.drew _, (Below.refl _ _).drew, ⟨fun y hy => ?_, HBW.out.drew⟩⟩
            rcases List.mem_append.1 hy with hy | hy
            · exact HPRE.out y hy
            · simp at hy
              subst hy
              show offN (rowN l k) X = offN (aroundN (rowN l) X) X
              rw [← HNN.out, ← HAA.out, ← HTT.out, H0.out]
          · have q1 : ((T : Int) == (N : Int)) = false := by simp; omega
            have q2 : ((T : Int) != (N : Int)) = true := by simp; omega
            have H0 := Lib.hid h0
            clear h0
            gi_wp2
            refine wpIn_region_still_tail 8 hmix (by kernel_rfl) (by kernel_rfl) ?_
            simp only [List.take_succ_cons, List.take_zero, List.drop_succ_cons, List.drop_zero]
            repeat still_step
            refine wpStill_nil ?_
            gi_wp2
            refine ⟨(KeepsOthers.drew _).trans (KeepsOthers.setCell _ _ _), ⟨rfl, ⟨⟨k, hk7, hkb⟩, by simp, ?_⟩, ?_, HDB.out.drew.setCell (by simp <;> omega) _⟩⟩
            · show offN (rowN l k) X ≠ offN (aroundN (rowN l) X) X
              rw [← HNN.out, ← HAA.out, ← HTT.out]
              exact H0.out
            · exact World.cell?_setCell_same' _ _ _ (by show (W.cell? _).isSome = true; rw [d3]; rfl)
        case done =>
          rintro D ys W hD hys ⟨hall, hB⟩ hK
          obtain ⟨d0, d1, d3, d4, dI, dB, dZ, dN⟩ := K.out W hB
          have HA := Lib.hid hall
          have HDB := Lib.hid dB
          clear hall hB dB dI
          gi_wp2
          have hK' := (KeepsOthers.setCell W ⟨w.heap.size + 1 + 1, 0, none⟩ (.bool true)).same D _ hK rfl
          refine ⟨by simp, .inl ⟨_, _, rfl, run_takeDeferred hK', ?_⟩⟩
          have hc5 := cell_kept (World.cell?_setCell_same' W ⟨w.heap.size + 1 + 1, 0, none⟩ (.bool true) (by rw [d3]; rfl)) (grownBy_putObj' _ D (.deferred none)) (fun r e => by cases e; exact ⟨_, hK', rfl⟩)
          refine ⟨.bool true, by simp [results, Try.f100, go_sem, hc5], SaysB.yes (HMA.out.2 fun k hk7 hkb => ?_) ((HDB.out.setCell (p := ⟨w.heap.size + 1 + 1, 0, none⟩) (by simp <;> omega) _).trans (belowK_b (w := w) (Nat.le_refl _) _ D _ _ (by omega) hK' rfl rfl))⟩
          have hm : k ∈ memU (X : Int) 7 := by unfold memU; simp [hk7, (bitAt_nat X k).2 hkb]
          rw [← hys] at hm
          obtain ⟨y, hy, rfl⟩ := List.mem_map.1 hm
          exact HA.out y hy
        case stop =>
          rintro D c pre W hD hpre ⟨rfl, ⟨y, hy, hne⟩, hcr, hB⟩ hK
          have HB := Lib.hid hB
          have HNE := Lib.hid hne
          clear hB hne
          gi_wp2
          refine ⟨by simp, .inl ⟨_, _, rfl, run_takeDeferred hK, ?_⟩⟩
          have hc5 := cell_kept hcr (grownBy_putObj' _ D (.deferred none)) (fun r e => by cases e; exact ⟨_, hK, rfl⟩)
          refine ⟨.bool false, by simp [results, Try.f100, go_sem, hc5], SaysB.no (fun h => ?_) (HB.out.trans (belowK_b (w := w) (Nat.le_refl _) W D _ _ (by omega) hK rfl rfl))⟩
          exact HNE.out (HMA.out.1 h y.1 (by have := y.2.1; omega) ((bitAt_nat X y.1).1 y.2.2))

end Go.Proofs.Ytbmpljclplddeab
