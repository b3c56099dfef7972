/- impl.ColorByOrder. -/
import Derived.Test.YtpifgmmmmhenmabDoorCb
import Derived.Test.YtpifgmmmmhenmabDoorHu
import Derived.Test.YtpifgmmmmhenmabDoorV2
import Derived.Test.YtpifgmmmmhenmabDoorRq
import Derived.Test.YtpifgmmmmhenmabDoorTz
import Derived.Sort.CutIn
import Derived.Sort.BigQuietIn
import Derived.Maps.AppendAt
namespace Go.Proofs.YtpifgmmmmhenmabDoor
set_option linter.unusedVariables false
set_option linter.unusedSimpArgs false
open Go.RowKit Go.Shelf
attribute [local go_sem] Oper.semAt_some

/-- The complement of a set, as an unsigned number. -/
def notU (u : Nat) : Int := 18446744073709551615 - (u : Int)

theorem not_is (u : Nat) (h7 : u < 128) : bits .xor .u64 (if IntKind.u64.signed = true then -1 else IntKind.u64.max) (u : Int) = notU u := by
  have h : ∀ u : Fin 128, bits .xor .u64 (if IntKind.u64.signed = true then -1 else IntKind.u64.max) ((u.val : Nat) : Int) = notU u.val := by decide +kernel
  exact h ⟨u, h7⟩

theorem tzn_facts (u : Nat) (h7 : u < 128) : ∃ i : Nat, IntKind.u64.wrap (bits .and .u64 (notU u) (IntKind.u64.wrap (-(notU u))) * 285870213051353865) / 2 ^ 58 = (i : Int) ∧ i < 64 ∧ tab64.getD i 0 = ((mexN u : Nat) : Int) := by
  have h : ∀ u : Fin 128, (IntKind.u64.wrap (bits .and .u64 (notU u.val) (IntKind.u64.wrap (-(notU u.val))) * 285870213051353865) / 2 ^ 58).toNat < 64 ∧ IntKind.u64.wrap (bits .and .u64 (notU u.val) (IntKind.u64.wrap (-(notU u.val))) * 285870213051353865) / 2 ^ 58 = (((IntKind.u64.wrap (bits .and .u64 (notU u.val) (IntKind.u64.wrap (-(notU u.val))) * 285870213051353865) / 2 ^ 58).toNat : Nat) : Int) ∧ tab64.getD (IntKind.u64.wrap (bits .and .u64 (notU u.val) (IntKind.u64.wrap (-(notU u.val))) * 285870213051353865) / 2 ^ 58).toNat 0 = ((mexN u.val : Nat) : Int) := by decide +kernel
  obtain ⟨a, b, c⟩ := h ⟨u, h7⟩
  exact ⟨_, b, a, c⟩

set_option maxHeartbeats 1000000 in
theorem tzn64 (u : Nat) (h7 : u < 128) (w : World) (ht : TabT w) :
    Calls Tryd.prog 79 #[.int .u64 (notU u)] w fun e w' => e = .returned (.int .i64 (mexN u : Nat)) ∧ Below w.heap.size w w' := by
  obtain ⟨i, hi, hi64, hv⟩ := tzn_facts u h7
  have c0 := ht.cell gT64 i (by exact hi64)
  rw [hv] at c0
  have hL7 := (mex_facts u h7).1
  obtain ⟨L, hL⟩ : ∃ L, L = mexN u := ⟨_, rfl⟩
  rw [← hL] at c0 hL7 ⊢
  have w0 : wrap64 (L : Int) = (L : Int) := by
    have h : ∀ L : Fin 8, wrap64 ((L.val : Nat) : Int) = ((L.val : Nat) : Int) := by decide +kernel
    exact h ⟨L, by omega⟩
  obtain ⟨X, hX⟩ : ∃ X, X = notU u := ⟨_, rfl⟩
  rw [← hX] at hi ⊢
  have d0 : (X == 0) = false := by rw [beq_eq_false_iff_ne, hX]; unfold notU; omega
  obtain ⟨N, hN⟩ : ∃ N, N = IntKind.u64.wrap (-X) := ⟨_, rfl⟩
  have e0 : IntKind.u64.wrap (-X) = N := hN.symm
  obtain ⟨P, hP⟩ : ∃ P, P = bits .and .u64 X N := ⟨_, rfl⟩
  have e1 : bits .and .u64 X N = P := hP.symm
  obtain ⟨M, hM⟩ : ∃ M, M = IntKind.u64.wrap (P * 285870213051353865) := ⟨_, rfl⟩
  have e2 : IntKind.u64.wrap (P * 285870213051353865) = M := hM.symm
  have e3 : M / 288230376151711744 = (i : Int) := by rw [hM, hP, hN]; exact hi
  clear hN hP hM hi hv hL ht hX
  go_enter Tryd.func79, Tryd.ntmps79
  go_wp2
  go_ret
  exact ⟨rfl, Below.refl _ _⟩

theorem tzn (u : Nat) (h7 : u < 128) (w : World) (ht : TabT w) :
    Calls Tryd.prog 47 #[.int .u64 (notU u)] w fun e w' => e = .returned (.int .i64 (mexN u : Nat)) ∧ Below w.heap.size w w' := by
  have HT := Lib.hid ht
  obtain ⟨L, hL⟩ : ∃ L, L = mexN u := ⟨_, rfl⟩
  have HL := Lib.hid hL
  rw [← hL]
  clear ht hL
  go_enter Tryd.func47, Tryd.ntmps47
  go_wp2_with fail
  refine (tzn64 u h7 _ HT.out).mono ?_
  rintro e w1 ⟨rfl, hb⟩
  rw [← HL.out]
  have HB := Lib.hid hb
  clear hb
  go_wp2
  go_ret
  exact ⟨rfl, HB.out⟩

/-- What the loop keeps: the boxes, and what lay before the call. -/
def ClK (w : World) (N : Nat) (gv : Value) (q : Nat) (W : World) : Prop :=
  W.cell? ⟨w.heap.size, 0, none⟩ = some (.int .i64 N) ∧ W.cell? ⟨w.heap.size, 1, none⟩ = some gv ∧ Boxed W (q + 1) 22 (.slice (some ⟨q, 0, none⟩) N N) ∧ Below w.heap.size w W ∧ q + 2 ≤ W.heap.size

theorem Only.ofGrownC {lo hi : Nat} {W W' : World} (hg : W.grownBy W' none) : Only lo hi W W' := ⟨hg.os, hg.tape, hg.output, hg.size, fun k hk _ => hg.block k hk (by simp)⟩

theorem Only.drewC {lo hi : Nat} {W W' : World} (h : Only lo hi W W') : Only lo hi W W'.drew := ⟨h.os, h.tape, h.output, h.size, h.block⟩

theorem Only.grown1 {z : Nat} {W W' : World} (h : Only z (z + 1) W W') : W.grownBy W' (some z) := ⟨h.os, h.tape, h.output, h.size, fun k hk hne => h.block k hk (by
  have : k ≠ z := fun e => hne (by rw [e])
  omega)⟩

theorem ClK.only {w : World} {N : Nat} {gv : Value} {q lo hi : Nat} {W W' : World} (h : ClK w N gv q W) (hl : w.heap.size < lo) (hq : q + 1 < lo ∨ hi ≤ q + 1) (hw : w.heap.size < q) (ho : Only lo hi W W') : ClK w N gv q W' := by
  obtain ⟨h1, h2, h3, h4, h5⟩ := h
  refine ⟨(World.cell?_of_block (a := ⟨w.heap.size, 0, none⟩) (ho.block _ (by show w.heap.size < _; omega) (.inl (by show w.heap.size < _; omega)))).trans h1, (World.cell?_of_block (a := ⟨w.heap.size, 1, none⟩) (ho.block _ (by show w.heap.size < _; omega) (.inl (by show w.heap.size < _; omega)))).trans h2, Boxed.keepOH h3 ho hq, h4.trans ⟨ho.os, ho.tape, ho.output, ho.size, fun k hk => ho.block k (by have := h4.size; omega) (.inl (by omega))⟩, Nat.le_trans h5 ho.size⟩

/-- What holds while the colors around v are seen. -/
def ClI (z : Nat) (C : List Int) (X : Nat) (w2 : World) (pre : List (Mem (X : Int))) (W : World) : Prop :=
  Boxed W z 3 (.int .i64 (usdF C 0 (pre.map (·.1)) : Nat)) ∧ Only z (z + 1) w2 W

theorem clI_own {z : Nat} {C : List Int} {X : Nat} {w2 : World} (hz : z < w2.heap.size) : OwnFrom w2.heap.size (ClI z C X w2) := fun s A B row hs hg hr =>
  ⟨boxed_own z 3 (fun (_ : Unit) => Value.int .i64 (usdF C 0 (s.map (·.1)) : Nat)) () A B row hs.1 hg (fun r e => (hr r e).2), hs.2.thenGH hg (Nat.le_refl _) fun r e => (hr r e).1⟩

set_option maxHeartbeats 4000000 in
set_option maxRecDepth 100000 in
theorem implColor (n : Int) (v vl : Value) (lg l : List Int) (w : World) (hT : TabT w) (h : Ints w v lg) (hl : Ints w vl l) (hlen : l.length ≤ 1048576) :
    Calls Tryd.prog 27 #[.agg #[.int .i64 n, v], vl] w (GetsI w.heap.size w (colR n lg l)) := by
  obtain ⟨a, cap, rfl, -, -⟩ := h.form
  obtain ⟨al, capl, rfl, hcl, hml⟩ := hl.form
  have HI := Lib.hid h
  have HL := Lib.hid hl
  have HTT := Lib.hid hT
  unfold maxLen at hml
  obtain ⟨R, hR⟩ : ∃ R, R = colR n lg l := ⟨_, rfl⟩
  have HRR := Lib.hid hR
  rw [← hR]
  clear h hl hR hT
  have hmix : Tryd.prog.follows .mixedOrders = true := by kernel_rfl
  refine (callsIn_wide (n := 6)).1 ?_
  refine callsIn_of_wp_marks Tryd.func27 rfl trivial ?_ rfl
  simp only [Tryd.ntmps27, List.size_toArray, List.length_cons, List.length_nil, Nat.reduceAdd, Nat.reduceSub, Array.replicate_succ, Array.replicate_zero, List.push_toArray, List.append_toArray, List.nil_append, List.cons_append]
  obtain ⟨W0, hW0⟩ : ∃ W0, W0 = (w.alloc (.cells #[.int .i64 n, .slice a lg.length cap] 28)) := ⟨_, rfl⟩
  have BB : Hid (Below w.heap.size w W0) := by rw [hW0]; exact (Below.refl _ w).alloc (Nat.le_refl _) _
  have G0 : W0.cell? ⟨w.heap.size, 0, none⟩ = some (.int .i64 n) := by rw [hW0]; simp [go_sem]
  have S0 : W0.cell? ⟨w.heap.size, 1, none⟩ = some (.slice a lg.length cap) := by rw [hW0]; simp [go_sem]
  have Z0 : W0.heap.size = w.heap.size + 1 := by rw [hW0]; simp
  gi_wp2_with fail
  rw [← hW0]
  refine ⟨trivial, (callsIn_wide.2 (implIsOrder n _ _ lg l _ (HI.out.on BB.out) (HL.out.on BB.out) hlen)).mono ?_⟩
  rintro e w1 ⟨r, rfl, hr, hb⟩
  clear hW0
  have BB1 := Lib.hid (BB.out.trans (hb.mono BB.out.size))
  have G1 : w1.cell? ⟨w.heap.size, 0, none⟩ = some (.int .i64 n) := (hb.cell (p := ⟨w.heap.size, 0, none⟩) (by show w.heap.size < W0.heap.size; omega)).trans G0
  have S1 : w1.cell? ⟨w.heap.size, 1, none⟩ = some (.slice a lg.length cap) := (hb.cell (p := ⟨w.heap.size, 1, none⟩) (by show w.heap.size < W0.heap.size; omega)).trans S0
  have Z1 : w.heap.size + 1 ≤ w1.heap.size := by have := hb.size; omega
  have HR := Lib.hid hr
  clear hb S0 G0 Z0 hr BB
  cases r with
  | false =>
    have HN := Lib.hid (show R = [] by rw [HRR.out]; exact colR_no fun h => absurd (HR.out.2 h) (by decide))
    gi_wp2
    refine ⟨_, by simp [results, Tryd.f27, go_sem]; rfl, ?_⟩
    rw [HN.out]
    exact ⟨_, rfl, ⟨inI64_nil, World.ownsRow_nil _ _ _ _⟩, BB1.out⟩
  | true =>
    have HO := Lib.hid (HR.out.1 (by first | rfl | trivial))
    obtain ⟨hl1, hl7, hnl⟩ := HO.out.len
    obtain ⟨N, hN⟩ : ∃ N : Nat, N = lg.length := ⟨_, rfl⟩
    obtain rfl : n = (N : Int) := by omega
    have HNL := Lib.hid hN
    have hN7 : N ≤ 7 := by omega
    have hN1 : 1 ≤ N := by have := HO.out.graph.1; omega
    have HLN := Lib.hid (show l.length = N by omega)
    clear hl1 hl7 hnl hN
    have hmk := fun W : World => run_make_row' (P := Tryd.prog) 22 3 (.int .i64 0) 8 Tryd.underlying22 infoInt rfl .i64 .i64 N (by omega) (by omega) W
    obtain ⟨q, hq⟩ : ∃ q, q = w1.heap.size := ⟨_, rfl⟩
    obtain ⟨w3, hw3⟩ : ∃ w3, w3 = (w1.alloc (.cells (madeCells #[.int .i64 0] N) 3)).alloc (.cells #[.slice (some ⟨w1.heap.size, 0, none⟩) N N] 22) := ⟨_, rfl⟩
    have hb3 : Below w1.heap.size w1 w3 := by rw [hw3]; exact ((Below.refl _ w1).alloc (Nat.le_refl _) _).alloc (by simp) _
    have HST := Lib.hid (show OwnI q w3 (.slice (some ⟨q, 0, none⟩) N N) (cS lg l 0).1 by
      have hrow := World.rowIs_made w1 (.int .i64 0) N 3
      have h1 := OwnI.of_row (B := w1.heap.size) (l := List.replicate N 0) (by rw [List.length_replicate]; exact hrow) (fun i hi => by
        have hi' : i < N := by simpa using hi
        simp [nth, List.getD, hi']) (Nat.le_refl _) (fun x hx => by simp at hx; omega) (by rw [List.length_replicate]; unfold maxLen; omega)
      rw [List.length_replicate] at h1
      rw [hw3, hq]
      show OwnI _ _ _ (List.replicate lg.length 0)
      rw [← HNL.out]
      exact h1.alloc _)
    have HBX3 := Lib.hid (show Boxed w3 (q + 1) 22 (.slice (some ⟨q, 0, none⟩) N N) by
      rw [hw3, hq]
      have h1 := Boxed.new (w1.alloc (.cells (madeCells #[.int .i64 0] N) 3)) 22 (.slice (some ⟨w1.heap.size, 0, none⟩) N N)
      rw [World.size_alloc] at h1
      exact h1)
    have hz3 : w3.heap.size = q + 2 := by rw [hw3, hq]; simp
    have HQW := Lib.hid (show w.heap.size < q by omega)
    have HK3 := Lib.hid (show ClK w N (.slice a lg.length cap) q w3 from ⟨(hb3.cell (p := ⟨w.heap.size, 0, none⟩) (by show w.heap.size < _; omega)).trans G1, (hb3.cell (p := ⟨w.heap.size, 1, none⟩) (by show w.heap.size < _; omega)).trans S1, HBX3.out, BB1.out.trans (hb3.mono BB1.out.size), by omega⟩)
    gi_upto_region 4 with fail
    rw [← hw3, ← hq]
    clear hw3 hq hb3 G1 S1 Z1 hmk hz3
    obtain ⟨c0, c1, c2, -, -⟩ := HK3.out
    gi_wp2
    refine wpIn_loop (fun a' w' => ∃ (u6 u8 u9 u10 u20 u21 u22 u23 u24 u25 u26 u27 u28 u29 u30 u31 u32 u33 u34 u35 u36 u37 u38 u39 u40 u41 u42 u43 u44 u45 u46 u47 u48 u49 u50 u51 u52 : Value) (ds : List Deferred), (∃ (i : Nat) (Ds : List Nat), i ≤ N ∧ u20 = .int .i64 (i : Int) ∧ u6 = .int .i64 ((cS lg l i).2 : Nat) ∧ ds = markL Ds ∧ MarksOk (q + 2) Ds w' ∧ Hid (ClK w N (.slice a lg.length cap) q w') ∧ Hid (OwnI q w' (.slice (some ⟨q, 0, none⟩) N N) (cS lg l i).1)) ∧ a' = { tmps := #[.agg #[.int .i64 (N : Int), .slice a lg.length cap], .slice al l.length capl, .pointer (some ⟨w.heap.size, 0, none⟩), undef, .slice none 0 0, .pointer (some ⟨q + 1, 0, none⟩), u6, undef, u8, u9, u10, .agg #[.int .i64 (N : Int), .slice a lg.length cap], .slice al l.length capl, .bool true, .bool false, .pointer (some ⟨w.heap.size, 0, none⟩), .int .i64 (N : Int), .slice (some ⟨q, 0, none⟩) N N, .slice al l.length capl, .int .i64 l.length, u20, u21, u22, u23, u24, u25, u26, u27, u28, u29, u30, u31, u32, u33, u34, u35, u36, u37, u38, u39, u40, u41, u42, u43, u44, u45, u46, u47, u48, u49, u50, u51, u52], defers := ds }) (fun a' _ => N - (intOf (a'.tmps.getD 20 undef)).toNat) ?atStart ?round
    case atStart =>
      (repeat apply Exists.intro)
      refine ⟨?_, rfl⟩
      exact ⟨0, [], by omega, rfl, rfl, rfl, MarksOk.nil _ _, HK3.out, HST.out⟩
    case round =>
      clear HST HK3 HBX3 c0 c1 c2
      rintro a' wr ⟨u6, u8, u9, u10, u20, u21, u22, u23, u24, u25, u26, u27, u28, u29, u30, u31, u32, u33, u34, u35, u36, u37, u38, u39, u40, u41, u42, u43, u44, u45, u46, u47, u48, u49, u50, u51, u52, ds, ⟨i, Ds, hiN, rfl, rfl, rfl, hmk, HK, HOW⟩, rfl⟩
      have HMK := Lib.hid hmk
      clear hmk
      by_cases hlt : i < N
      · have d0 : decide ((i : Int) < (l.length : Int)) = true := decide_eq_true (by have := HLN.out; omega)
        have d0' : decide (i < l.length) = true := decide_eq_true (by have := HLN.out; omega)
        have hil : i < l.length := by have := HLN.out; omega
        obtain ⟨c0, c1, c2, cB, -⟩ := HK.out
        obtain ⟨bl, offl, cl, hv, _, hml2, hbl, hcell⟩ := HL.out.pos (by omega)
        simp only [Value.slice.injEq] at hv
        obtain ⟨rfl, -, rfl⟩ := hv
        obtain ⟨bg, offg, cg, hv, _, hmg, hbg, hcg⟩ := HI.out.pos (by have := HNL.out; omega)
        simp only [Value.slice.injEq] at hv
        obtain ⟨rfl, -, rfl⟩ := hv
        unfold maxLen at hml2 hmg
        obtain ⟨ka, kb, kc⟩ := HO.out.1.at hil
        obtain ⟨V, hV⟩ : ∃ V, V = kl l i := ⟨_, rfl⟩
        rw [← hV] at ka kb kc
        have HVE := Lib.hid hV
        have hVN : V < N := by have := HNL.out; omega
        obtain ⟨C, hC⟩ : ∃ C, C = (cS lg l i).1 := ⟨_, rfl⟩
        obtain ⟨K, hKK⟩ : ∃ K, K = (cS lg l i).2 := ⟨_, rfl⟩
        have HCE := Lib.hid (show cS lg l i = (C, K) by rw [hC, hKK])
        have hI := cS_inv HO.out i (by omega)
        rw [← hC, ← hKK] at hI
        have HII := Lib.hid hI
        rw [← hC] at HOW
        rw [← hKK]
        obtain ⟨R1, hR1⟩ : ∃ R, R = rowN lg V := ⟨_, rfl⟩
        obtain ⟨X, hX⟩ : ∃ X, X = R1 &&& K := ⟨_, rfl⟩
        have h128 := two_le lg.length (by have := HNL.out; omega)
        have hrl := HO.out.graph.row_lt V (by have := HNL.out; omega)
        have hK7 : K < 128 := by have := hI.lt; omega
        have hR7 : R1 < 128 := by rw [hR1]; omega
        have k1 : bits .and .i64 (R1 : Int) (K : Int) = (X : Int) := by rw [hX]; exact (bits_nat _ _ hR7 hK7).1
        have HXX := Lib.hid (show X = rowN lg V &&& K by rw [hX, hR1])
        have HXK := Lib.hid (show ∀ k, X.testBit k = true → K.testBit k = true by
          intro k hk
          rw [hX, Nat.testBit_and] at hk
          simp at hk
          exact hk.2)
        have HX7 := Lib.hid (show X < 128 from by rw [hX]; exact Nat.lt_of_le_of_lt Nat.and_le_left hR7)
        have f1 := (cB.cell (p := ⟨bl, offl + i, none⟩) hbl).trans (hcell i hil)
        have f2 := (cB.cell (p := ⟨bg, offg + V, none⟩) hbg).trans (hcg V (by have := HNL.out; omega))
        rw [ka] at f1
        rw [hrl.2, ← hR1] at f2
        have hVg : V < lg.length := by have := HNL.out; omega
        have HROW := Lib.hid (show w.cell? ⟨bg, offg + V, none⟩ = some (.int .i64 R1) by rw [hcg V hVg, hrl.2, ← hR1])
        obtain ⟨z, hz⟩ : ∃ z, z = wr.heap.size := ⟨_, rfl⟩
        obtain ⟨W1, hW1⟩ : ∃ W1, W1 = wr.alloc (.cells #[.int .i64 0] 3) := ⟨_, rfl⟩
        have hg1 : wr.grownBy W1 none := by rw [hW1]; exact grown_alloc wr _ none
        have HK1 := Lib.hid (HK.out.only (lo := q + 2) (hi := q + 2) (by have := HQW.out; omega) (.inl (by omega)) HQW.out (Only.ofGrownC hg1))
        have HMK1 := Lib.hid (HMK.out.grown hg1)
        have HOW1 := Lib.hid (show OwnI q W1 (.slice (some ⟨q, 0, none⟩) N N) C by rw [hW1]; exact HOW.out.alloc _)
        have HBZ := Lib.hid (show Boxed W1 z 3 (.int .i64 0) by rw [hW1, hz]; exact Boxed.new wr 3 (.int .i64 0))
        have hz1 : W1.heap.size = z + 1 := by rw [hW1, hz]; simp
        have HZQ := Lib.hid (show q + 2 ≤ z by have := HK.out.2.2.2.2; omega)
        clear hC hKK hI hX hR1 hrl h128 hcell hcg ka hV cB
        gi_upto_region 8 with fail
        rw [← hW1, ← hz]
        have HZ := Lib.hid hz
        clear hW1 hz hg1 c0 c1 c2
        obtain ⟨c0, c1, c2, cB, -⟩ := HK1.out
        have f2' := (cB.cell (p := ⟨bg, offg + V, none⟩) hbg).trans (HROW.out)
        obtain ⟨W2, hW2⟩ : ∃ W2, W2 = W1.alloc (.cells #[.int .i64 X] 3) := ⟨_, rfl⟩
        have hg2 : W1.grownBy W2 none := by rw [hW2]; exact grown_alloc W1 _ none
        have hcB := Lib.hid (show W2.cell? ⟨z + 1, 0, none⟩ = some (.int .i64 X) by rw [hW2, ← hz1]; simp [go_sem])
        have hz2 : W2.heap.size = z + 2 := by rw [hW2]; simp [hz1]
        have HK2 := Lib.hid (HK1.out.only (lo := q + 2) (hi := q + 2) (by have := HQW.out; omega) (.inl (by omega)) HQW.out (Only.ofGrownC hg2))
        have HMK2 := Lib.hid (HMK1.out.grown hg2)
        have HOW2 := Lib.hid (show OwnI q W2 (.slice (some ⟨q, 0, none⟩) N N) C by rw [hW2]; exact HOW1.out.alloc _)
        have HBZ2 := Lib.hid (show Boxed W2 z 3 (.int .i64 0) by rw [hW2]; exact HBZ.out.alloc _)
        clear cB f1 f2
        gi_wp2_with fail
        refine ⟨trivial, (callsIn_wide.2 (verticesIn_is X _)).mono ?_⟩
        rintro e w6 ⟨rfl, hw6⟩
        obtain rfl : w6 = W2 := by rw [hW2]; exact hw6.symm
        rw [hz1]
        clear hw6 hW2 hg2 hz1 f2'
        gi_wp2_with fail
        refine wpIn_rangeFunc_ownF (w0 := w6) rfl (by omega) (gf := 77) (lb := #[.pointer (some ⟨z + 1, 0, none⟩)]) rfl trivial (enters_of Tryd.func77 (by kernel_rfl) rfl)
          (vin_stopsC Fence.wide 5 trivial rfl (by omega) (z + 1) X w6 (by omega) hcB.out) keepC_t (keepC_b (by omega)) (Below.refl _ _) (fun _ => rfl)
          (ClI z C X w6) (fun _ _ _ => False) (clI_own (by omega)) (fun _ _ _ _ _ hs _ _ => hs)
          ⟨HBZ2.out, Only.refl _ _ _⟩
          (fun y => { tmps := #[.agg #[.int .i64 (N : Int), .slice (some ⟨bg, offg, none⟩) lg.length cap], .slice (some ⟨bl, offl, none⟩) l.length capl, .pointer (some ⟨w.heap.size, 0, none⟩), undef, .slice none 0 0, .pointer (some ⟨q + 1, 0, none⟩), .int .i64 (K : Int), undef, .int .i64 (V : Int), .pointer (some ⟨z, 0, none⟩), .int .i64 (y.1 : Int), .agg #[.int .i64 (N : Int), .slice (some ⟨bg, offg, none⟩) lg.length cap], .slice (some ⟨bl, offl, none⟩) l.length capl, .bool true, .bool false, .pointer (some ⟨w.heap.size, 0, none⟩), .int .i64 (N : Int), .slice (some ⟨q, 0, none⟩) N N, .slice (some ⟨bl, offl, none⟩) l.length capl, .int .i64 l.length, .int .i64 (i : Int), .bool true, .pointer (some ⟨bl, offl + i, none⟩), .int .i64 (V : Int), .pointer (some ⟨w.heap.size, 1, none⟩), .slice (some ⟨bg, offg, none⟩) lg.length cap, .int .i64 (V : Int), .pointer (some ⟨bg, offg + V, none⟩), .int .i64 (R1 : Int), .int .i64 (K : Int), .int .i64 (X : Int), .func (.func 77) #[] #[.pointer (some ⟨z + 1, 0, none⟩)], .int .i64 (y.1 : Int), u33, u34, u35, u36, u37, u38, u39, u40, u41, u42, u43, u44, u45, u46, u47, u48, u49, u50, u51, u52], defers := [] }) ?assign ?body ?done ?stop
        case assign =>
          intro li y W K hK
          gi_wp2
          exact hK
        case body =>
          rintro li pre y W ⟨hq1, ho⟩ hlen
          obtain ⟨k, hk7, hkb⟩ := y
          have hKb := HXK.out k ((bitAt_nat X k).1 hkb)
          have hcol := HII.out.col k hKb
          have hkN : k < N := by have := bit_lt HII.out.lt hKb; have := HNL.out; omega
          obtain ⟨c0, c1, c2, cB, cz⟩ := HK2.out.only (by have := HQW.out; have := HZQ.out; omega) (.inl (by have := HZQ.out; omega)) HQW.out ho
          have c6 := c2.cell
          have c5 := hq1.cell
          have f5 := hq1.frozen
          have HOC := Lib.hid (HOW2.out.kept ho.grown1 (.inr fun e => by have h1 : q = z := Option.some.inj e; have := HZQ.out; omega))
          have hO3 := HOC.out
          rcases hO3.form with ⟨h9, -⟩ | ⟨g9, cp9, h9, -, -, -, -, hcell9, hfr9⟩
          · cases h9
          simp only [Value.slice.injEq, Option.some.injEq, Addr.mk.injEq] at h9
          obtain ⟨⟨rfl, -, -⟩, -, -⟩ := h9
          have d1 := hcell9 k (by rw [HII.out.len, ← HNL.out]; exact hkN)
          obtain ⟨c, hc⟩ : ∃ c : Nat, nth C k = (c : Int) := ⟨(nth C k).toNat, by omega⟩
          have hc6 : c ≤ 6 := by omega
          rw [hc] at d1
          obtain ⟨P1, eP1, hP11, hP12⟩ : ∃ P, (2 : Int) ^ c = P ∧ 1 ≤ P ∧ P ≤ 128 := ⟨_, rfl, (shl_one' c (by omega)).2.2.2.2, (shl_one' c (by omega)).2.2.2.1⟩
          have g3 : IntKind.i64.wrap (1 * P1) = P1 := IntWalk.i64_in _ (by omega) |>.trans (by omega)
          have g4 : IntKind.i64.wrap P1 = P1 := IntWalk.i64_in _ (by omega)
          obtain ⟨u0, hu0⟩ : ∃ u, u = usdF C 0 (pre.map (·.1)) := ⟨_, rfl⟩
          have hu7 : u0 < 128 := by
            rw [hu0]
            refine usdF_lt C 7 _ 0 (by decide) fun x hx => ?_
            obtain ⟨y, -, rfl⟩ := List.mem_map.1 hx
            have := HII.out.col y.1 (HXK.out y.1 ((bitAt_nat X y.1).1 y.2.2))
            omega
          rw [← hu0] at c5
          obtain ⟨u1, hu1⟩ : ∃ u, u = u0 ||| 2 ^ c := ⟨_, rfl⟩
          have g5 : bits .or .i64 (u0 : Int) P1 = (u1 : Int) := by
            rw [hu1, ← eP1]
            have h1 : 2 ^ c < 128 := by have := Nat.pow_le_pow_right (n := 2) (by decide) hc6; omega
            have h2 := (bits_nat u0 (2 ^ c) hu7 h1).2
            push_cast at h2 ⊢
            exact h2
          have HS := Lib.hid (show usdF C 0 ((pre ++ [(⟨k, hk7, hkb⟩ : Mem (X : Int))]).map (·.1)) = u1 by
            rw [List.map_append, List.map_cons, List.map_nil, usdF_snoc, ← hu0, hu1, hc, Int.toNat_natCast])
          have HON := Lib.hid ho
          have HQ1 := Lib.hid hq1
          clear hcell9 hfr9 hO3 hc hcol hu0 hu1 hq1 ho cB hlen
          gi_wp2
          refine wpIn_region_still_tail 7 hmix (by kernel_rfl) (by kernel_rfl) ?_
          simp only [List.take_succ_cons, List.take_zero, List.drop_succ_cons, List.drop_zero]
          repeat still_step
          refine wpStill_nil ?_
          gi_wp2
          refine ⟨(KeepsOthers.setCell _ _ _).trans (KeepsOthers.drew _), ?_, ?_, (HON.out.setCH (Nat.le_refl _) (by omega) _).drewC⟩
          · show (W.setCell ⟨z, 0, none⟩ _).cell? ⟨z + 1, 0, none⟩ = _
            rw [World.cell?_setCell_far _ _ _ _ (by show z ≠ z + 1; omega)]
          · rw [HS.out]
            exact HQ1.out.set _
        case done =>
          rintro D ys W hD hys ⟨hq1, ho⟩ hK
          have HKW := Lib.hid (HK2.out.only (by have := HQW.out; have := HZQ.out; omega) (.inl (by have := HZQ.out; omega)) HQW.out ho)
          have HOC := Lib.hid (HOW2.out.kept ho.grown1 (.inr fun e => by have h1 : q = z := Option.some.inj e; have := HZQ.out; omega))
          have HMW : Hid (MarksOk (q + 2) (D :: Ds) W) := (HMK2.out.keep fun E hE => ho.block E (HMK2.out.lt hE) (.inl (by have := HMK.out.lt hE; have := HZ.out; omega))).cons (by have := HZQ.out; omega) hK fun hDD => by have := HMK2.out.lt hDD; omega
          obtain ⟨u, hu⟩ : ∃ u, u = usdN C X := ⟨_, rfl⟩
          have hui : u < 2 ^ i := by rw [hu, HXX.out]; exact HII.out.used _
          have hu7 : u < 128 := by have := Nat.pow_le_pow_right (n := 2) (by decide) (show i ≤ 7 by omega); omega
          have c5 : W.cell? ⟨z, 0, none⟩ = some (.int .i64 (u : Int)) := by
            have h1 := hq1.cell
            rw [hys, memU_nat] at h1
            rw [hu]
            exact h1
          have hzW : z < W.heap.size := by have := ho.size; omega
          obtain ⟨M, hM⟩ : ∃ M, M = mexN u := ⟨_, rfl⟩
          have hM6 : M ≤ 6 := by rw [hM]; exact Nat.le_trans (mex_le _ _ hui (by omega)) (by omega)
          obtain ⟨b0, b1, b2, bB, bz⟩ := HKW.out
          have b6 := b2.cell
          have hq0 : ∀ Y : Since W, Y.val.cell? ⟨q + 1, 0, none⟩ = some (.slice (some ⟨q, 0, none⟩) N N) := fun Y => (Y.prop.cell (p := ⟨q + 1, 0, none⟩) (by show q + 1 < W.heap.size; omega)).trans b6
          have hq2 : ∀ Y : Since W, Y.val.cell? ⟨z, 0, none⟩ = some (.int .i64 u) := fun Y => (Y.prop.cell (p := ⟨z, 0, none⟩) hzW).trans c5
          have HCT : Hid (∀ Y : Since W, Calls Tryd.prog 47 #[.int .u64 (bits .xor .u64 (if IntKind.u64.signed = true then -1 else IntKind.u64.max) (u : Int))] Y.val fun e w' => e = .returned (.int .i64 M) ∧ Below Y.val.heap.size Y.val w') := fun Y => by
            rw [hM, not_is u hu7]
            exact tzn u hu7 _ (HTT.out.on (bB.trans (Y.prop.mono bB.size)))
          obtain ⟨P, eP, hP1, hP2⟩ : ∃ P, (2 : Int) ^ V = P ∧ 1 ≤ P ∧ P ≤ 128 := ⟨_, rfl, (shl_one' V (by omega)).2.2.2.2, (shl_one' V (by omega)).2.2.2.1⟩
          have g3 : IntKind.i64.wrap (1 * P) = P := IntWalk.i64_in _ (by omega) |>.trans (by omega)
          have g4 : IntKind.i64.wrap P = P := IntWalk.i64_in _ (by omega)
          obtain ⟨K2, hK2⟩ : ∃ K2, K2 = K ||| 2 ^ V := ⟨_, rfl⟩
          have g5 : bits .or .i64 (K : Int) P = (K2 : Int) := by
            rw [hK2, ← eP]
            have h1 : 2 ^ V < 128 := by have := Nat.pow_le_pow_right (n := 2) (by decide) (show V ≤ 6 by omega); omega
            have h2 := (bits_nat K (2 ^ V) hK7 h1).2
            push_cast at h2 ⊢
            exact h2
          have g6 : IntKind.u64.wrap (u : Int) = (u : Int) := by
            have h : ∀ X : Fin 128, IntKind.u64.wrap ((X.val : Nat) : Int) = ((X.val : Nat) : Int) := by decide +kernel
            exact h ⟨u, hu7⟩
          have HE := Lib.hid (show cS lg l (i + 1) = (C.set V (M : Int), K2) by
            show ((cS lg l i).1.set (kl l i) _, (cS lg l i).2 ||| 2 ^ kl l i) = _
            rw [HCE.out, ← HVE.out]
            show (C.set V ((mexN (usdN C (rowN lg V &&& K)) : Nat) : Int), K ||| 2 ^ V) = _
            rw [← HXX.out, ← hu, ← hM, ← hK2])
          clear hq1 ho hys hK hu hui hM hK2 b0 b1 b2 bB b6 c5 bz
          gi_wp2
          refine wpIn_region_since_tailF open_wide 7 hmix (by kernel_rfl) (by kernel_rfl) ?_
          simp only [List.take_succ_cons, List.take_zero, List.drop_succ_cons, List.drop_zero]
          repeat (go_big_quiet_step (with_reducible exact since_call (HCT.out _)))
          refine wpQuiet_nil ?_
          intro Y
          obtain ⟨wy, hwy⟩ : ∃ wy, wy = Y.val := ⟨_, rfl⟩
          have hby : Below W.heap.size W wy := by rw [hwy]; exact Y.prop
          rw [← hwy]
          simp only [not_is u hu7]
          clear hwy hq0 hq2
          have HKY := Lib.hid (HKW.out.only (lo := q + 2) (hi := q + 2) (by have := HQW.out; omega) (.inl (by omega)) HQW.out (Only.ofGrownC (below_grown hby)))
          have HKS := Lib.hid (HKY.out.only (lo := q) (hi := q + 1) HQW.out (.inr (by omega)) HQW.out ((Only.refl q (q + 1) wy).setCH (j := V) (Nat.le_refl _) (by omega) (.int .i64 (M : Int))))
          have hO3 := HOC.out.on hby
          have HMS := Lib.hid (show MarksOk (q + 2) (D :: Ds) (wy.setCell ⟨q, V, none⟩ (.int .i64 (M : Int))) from (HMW.out.grown (below_grown hby)).keep fun E hE => Below.heap_setCell _ _ _ _ (fun e => by have h1 : E = q := e; have := (HMW.out.2 E hE).1; omega))
          rcases hO3.form with ⟨h9, -⟩ | ⟨g9, cp9, h9, -, -, -, -, hcell9, hfr9⟩
          · cases h9
          simp only [Value.slice.injEq, Option.some.injEq, Addr.mk.injEq] at h9
          obtain ⟨⟨rfl, -, -⟩, -, -⟩ := h9
          have d1 := hcell9 V (by rw [HII.out.len, ← HNL.out]; exact hVN)
          have f1 := hfr9 V
          have HOS := Lib.hid (show OwnI q (wy.setCell ⟨q, V, none⟩ (.int .i64 (M : Int))) (.slice (some ⟨q, 0, none⟩) N N) (C.set V (M : Int)) by
            have h1 : OwnI q wy (.slice (some ⟨q, 0, none⟩) C.length N) C := by rw [HII.out.len, ← HNL.out]; exact hO3
            have h2 := h1.set V (M : Int) (by omega) (by omega)
            rw [HII.out.len, ← HNL.out] at h2
            exact h2.1)
          clear hcell9 hfr9 hO3 hby
          gi_wp2
          refine ⟨?_, ?measure⟩
          (repeat apply Exists.intro)
          refine ⟨?rel, rfl⟩
          case rel => exact ⟨i + 1, D :: Ds, by omega, by go_num, by rw [HE.out], rfl, HMS.out, HKS.out, by rw [HE.out]; exact HOS.out⟩
          case measure => simp [intOf]; omega
        case stop =>
          rintro D c pre W hD hpre h hK
          exact h.elim
      · obtain rfl : i = N := by omega
        have d0 : decide ((i : Int) < (l.length : Int)) = false := by have := HLN.out; simp; omega
        have d0' : decide (i < l.length) = false := by have := HLN.out; simp; omega
        have HE := Lib.hid (show R = (cS lg l i).1 by rw [HRR.out, colR_is HO.out, HLN.out])
        have hc2 := HK.out.2.2.1.cell
        gi_wp2
        refine leave_with (Ds := Ds) HMK.out ?_
        refine ⟨_, by simp [results, Tryd.f27, go_sem]; rfl, ?_⟩
        rw [HE.out]
        exact ⟨_, rfl, (shut_ownH Ds _ HMK.out HOW.out).mono (by have := HQW.out; omega), shut_below (by have := HQW.out; omega) Ds _ HK.out.2.2.2.1 HMK.out⟩

end Go.Proofs.YtpifgmmmmhenmabDoor
