/- impl.HeightsOf. -/
import Derived.Test.YtcpchdnhhjhpaaaHs
import Derived.Sort.CutIn
import Derived.Sort.BigQuietIn
import Derived.Maps.AppendAt
namespace Go.Proofs.Ytcpchdnhhjhpaaa
set_option linter.unusedVariables false
set_option linter.unusedSimpArgs false
open Go.RowKit Go.Shelf
attribute [local go_sem] Oper.semAt_some

theorem relW_length (v : Nat) : ∀ (ws : List Nat) (h : List Int), (relW h v ws).length = h.length
  | [], _ => rfl
  | w :: ws, h => by
    show (relW (relS h v w) v ws).length = _
    rw [relW_length v ws]
    simp [relS]

theorem relV_length (T : List Int) (h : List Int) : ∀ v, (relV T h v).length = h.length
  | 0 => rfl
  | v + 1 => by
    show (relW (relV T h v) v (memU (nth T v) 7)).length = _
    rw [relW_length, relV_length T h v]

theorem relN_length (T : List Int) (N : Nat) : ∀ r, (relN T N r).length = N
  | 0 => by simp [relN]
  | r + 1 => by
    show (relV T (relN T N r) N).length = _
    rw [relV_length, relN_length T N r]

theorem hgtR_length (n : Int) (l T : List Int) : (hgtR n l T).length ≤ 7 := by
  unfold hgtR
  split
  · rename_i h
    rw [relN_length]
    have := h.1.1.2.1
    have := h.1.1.2.2.1
    omega
  · simp

/-- What the two loops keep: the boxes, and what lay before the call. -/
def HgK (w : World) (N : Nat) (tv : Value) (q : Nat) (W : World) : Prop :=
  W.cell? ⟨w.heap.size, 0, none⟩ = some (.int .i64 N) ∧ W.cell? ⟨w.heap.size + 1, 0, none⟩ = some tv ∧ Boxed W (q + 1) 22 (.slice (some ⟨q, 0, none⟩) N N) ∧ Below w.heap.size w W ∧ q + 2 ≤ W.heap.size

theorem Only.ofGrown {lo hi : Nat} {W W' : World} (hg : W.grownBy W' none) : Only lo hi W W' := ⟨hg.os, hg.tape, hg.output, hg.size, fun k hk _ => hg.block k hk (by simp)⟩

theorem HgK.only {w : World} {N : Nat} {tv : Value} {q : Nat} {W W' : World} (h : HgK w N tv q W) (hq : w.heap.size + 2 ≤ q) (ho : Only q (q + 1) W W') : HgK w N tv q W' := by
  obtain ⟨h1, h2, h3, h4, h5⟩ := h
  refine ⟨(World.cell?_of_block (a := ⟨w.heap.size, 0, none⟩) (ho.block _ (by show w.heap.size < _; omega) (.inl (by show w.heap.size < _; omega)))).trans h1, (World.cell?_of_block (a := ⟨w.heap.size + 1, 0, none⟩) (ho.block _ (by show w.heap.size + 1 < _; omega) (.inl (by show w.heap.size + 1 < _; omega)))).trans h2, Boxed.keepOH h3 ho (.inr (by omega)), h4.trans ⟨ho.os, ho.tape, ho.output, ho.size, fun k hk => ho.block k (by have := h4.size; omega) (.inl (by omega))⟩, Nat.le_trans h5 ho.size⟩

/-- What holds while the neighbours of v are seen. -/
def HgI (N q v : Nat) (H2 : List Int) (c : Int) (X : Nat) (w2 : World) (pre : List (Mem (X : Int))) (W : World) : Prop :=
  OwnI q W (.slice (some ⟨q, 0, none⟩) N N) (relW H2 v (pre.map (·.1))) ∧ Bd N (c + pre.length) (relW H2 v (pre.map (·.1))) ∧ Only q (q + 1) w2 W

theorem hgI_own {N q v : Nat} {H2 : List Int} {c : Int} {X : Nat} {w2 : World} (hq : q < w2.heap.size) : OwnFrom w2.heap.size (HgI N q v H2 c X w2) := fun s A B row hs hg hr =>
  ⟨hs.1.kept hg (.inr fun e => by have := (hr q e.symm).1; omega), hs.2.1, hs.2.2.thenGH hg (Nat.le_refl _) fun r e => (hr r e).1⟩

theorem Only.drew' {lo hi : Nat} {W W' : World} (h : Only lo hi W W') : Only lo hi W W'.drew := ⟨h.os, h.tape, h.output, h.size, h.block⟩

set_option maxHeartbeats 4000000 in
set_option maxRecDepth 100000 in
theorem implHeights (n : Int) (v u : Value) (lg T : List Int) (w : World) (h : Ints w v lg) (hl : Ints w u T) (hlen : T.length ≤ 1048576) :
    Calls Try.prog 64 #[.agg #[.int .i64 n, v], .agg #[u]] w (GetsI w.heap.size w (hgtR n lg T)) := by
  obtain ⟨a, cap, rfl, -, -⟩ := h.form
  obtain ⟨al, capl, rfl, hcl, hml⟩ := hl.form
  have HI := Lib.hid h
  have HL := Lib.hid hl
  unfold maxLen at hml
  obtain ⟨R, hR⟩ : ∃ R, R = hgtR n lg T := ⟨_, rfl⟩
  have HRR := Lib.hid hR
  rw [← hR]
  clear h hl hR
  refine (callsIn_wide (n := 6)).1 ?_
  refine callsIn_of_wp_marks Try.func64 rfl trivial ?_ rfl
  simp only [Try.ntmps64, List.size_toArray, List.length_cons, List.length_nil, Nat.reduceAdd, Nat.reduceSub, Array.replicate_succ, Array.replicate_zero, List.push_toArray, List.append_toArray, List.nil_append, List.cons_append]
  obtain ⟨W0, hW0⟩ : ∃ W0, W0 = ((w.alloc (.cells #[.int .i64 n, .slice a lg.length cap] 28)).alloc (.cells #[.slice al T.length capl] 79)) := ⟨_, rfl⟩
  have BB : Hid (Below w.heap.size w W0) := by rw [hW0]; exact (((Below.refl _ w).alloc (Nat.le_refl _) _).alloc (by simp) _)
  have G0 : W0.cell? ⟨w.heap.size, 0, none⟩ = some (.int .i64 n) := by rw [hW0]; simp [go_sem]
  have S0 : W0.cell? ⟨w.heap.size + 1, 0, none⟩ = some (.slice al T.length capl) := by rw [hW0]; simp [go_sem]
  have Z0 : W0.heap.size = w.heap.size + 2 := by rw [hW0]; simp
  gi_wp2_with fail
  rw [← hW0]
  refine ⟨trivial, (callsIn_wide.2 (implTr n _ _ lg T _ (HI.out.on BB.out) (HL.out.on BB.out) hlen)).mono ?_⟩
  rintro e w1 ⟨r, rfl, hr, hb⟩
  clear hW0
  have BB1 := Lib.hid (BB.out.trans (hb.mono BB.out.size))
  have G1 : w1.cell? ⟨w.heap.size, 0, none⟩ = some (.int .i64 n) := (hb.cell (p := ⟨w.heap.size, 0, none⟩) (by show w.heap.size < W0.heap.size; omega)).trans G0
  have S1 : w1.cell? ⟨w.heap.size + 1, 0, none⟩ = some (.slice al T.length capl) := (hb.cell (p := ⟨w.heap.size + 1, 0, none⟩) (by show w.heap.size + 1 < W0.heap.size; omega)).trans S0
  have Z1 : w.heap.size + 2 ≤ w1.heap.size := by have := hb.size; omega
  have HR := Lib.hid hr
  clear hb S0 G0 Z0 hr
  cases r with
  | false =>
    have HN := Lib.hid (show R = [] by rw [HRR.out]; unfold hgtR; rw [if_neg (fun h => absurd (HR.out.2 h) (by decide))])
    gi_wp2
    refine ⟨_, by simp [results, Try.f64, go_sem]; rfl, ?_⟩
    rw [HN.out]
    exact ⟨_, rfl, ⟨inI64_nil, World.ownsRow_nil _ _ _ _⟩, BB1.out⟩
  | true =>
    have HO := Lib.hid (HR.out.1 (by first | rfl | trivial))
    have hn7 := HO.out.1.1.2.1
    have hnl := HO.out.1.1.2.2.1
    have hn1 := HO.out.1.1.1
    obtain ⟨N, hN⟩ : ∃ N : Nat, n = (N : Int) := ⟨n.toNat, by omega⟩
    have HNL := Lib.hid (show lg.length = N by omega)
    subst hN
    have HTL := Lib.hid HO.out.1.2.1
    have hN7 : N ≤ 7 := by omega
    have hN1 : 1 ≤ N := by omega
    have hmk := fun W : World => run_make_row' (P := Try.prog) 22 3 (.int .i64 0) 8 Try.underlying22 infoInt rfl .i64 .i64 N (by omega) (by omega) W
    clear hnl hn7 hn1
    obtain ⟨q, hq⟩ : ∃ q, q = w1.heap.size := ⟨_, rfl⟩
    obtain ⟨w3, hw3⟩ : ∃ w3, w3 = (w1.alloc (.cells (madeCells #[.int .i64 0] N) 3)).alloc (.cells #[.slice (some ⟨w1.heap.size, 0, none⟩) N N] 22) := ⟨_, rfl⟩
    have hb3 : Below w1.heap.size w1 w3 := by rw [hw3]; exact ((Below.refl _ w1).alloc (Nat.le_refl _) _).alloc (by simp) _
    have HST := Lib.hid (show OwnI q w3 (.slice (some ⟨q, 0, none⟩) N N) (relN T N 0) by
      have hrow := World.rowIs_made w1 (.int .i64 0) N 3
      have h1 := OwnI.of_row (B := w1.heap.size) (l := List.replicate N 0) (by rw [List.length_replicate]; exact hrow) (fun i hi => by
        have hi' : i < N := by simpa using hi
        simp [nth, List.getD, hi']) (Nat.le_refl _) (fun x hx => by simp at hx; omega) (by rw [List.length_replicate]; unfold maxLen; omega)
      rw [List.length_replicate] at h1
      rw [hw3, hq]
      exact h1.alloc _)
    have HBX3 := Lib.hid (show Boxed w3 (q + 1) 22 (.slice (some ⟨q, 0, none⟩) N N) by
      rw [hw3, hq]
      have h1 := Boxed.new (w1.alloc (.cells (madeCells #[.int .i64 0] N) 3)) 22 (.slice (some ⟨w1.heap.size, 0, none⟩) N N)
      rw [World.size_alloc] at h1
      exact h1)
    have hz3 : w3.heap.size = q + 2 := by rw [hw3, hq]; simp
    have HQW := Lib.hid (show w.heap.size + 2 ≤ q by omega)
    have HK3 := Lib.hid (show HgK w N (.slice al T.length capl) q w3 from ⟨(hb3.cell (p := ⟨w.heap.size, 0, none⟩) (by show w.heap.size < _; omega)).trans G1, (hb3.cell (p := ⟨w.heap.size + 1, 0, none⟩) (by show w.heap.size + 1 < _; omega)).trans S1, HBX3.out, BB1.out.trans (hb3.mono BB1.out.size), by omega⟩)
    gi_upto_region 4 with fail
    rw [← hw3, ← hq]
    clear hw3 hq hb3 G1 S1 Z1 hmk hz3
    obtain ⟨c0, c1, c2, -, -⟩ := HK3.out
    gi_wp2
    refine wpIn_loop (fun a' w' => ∃ (u6 u7 u8 u18 u19 u20 u21 u22 u23 u24 u25 u26 u27 u28 u29 u30 u31 u32 u33 u34 u35 u36 u37 u38 u39 u40 u41 u42 u43 u44 u45 u46 : Value) (ds : List Deferred), (∃ (r : Nat) (Ds : List Nat), r ≤ N ∧ u18 = .int .i64 (r : Int) ∧ ds = markL Ds ∧ MarksOk (q + 2) Ds w' ∧ Hid (HgK w N (.slice al T.length capl) q w') ∧ Hid (OwnI q w' (.slice (some ⟨q, 0, none⟩) N N) (relN T N r)) ∧ Hid (Bd N (49 * (r : Int)) (relN T N r))) ∧ a' = { tmps := #[.agg #[.int .i64 N, .slice a lg.length cap], .agg #[.slice al T.length capl], .pointer (some ⟨w.heap.size, 0, none⟩), .pointer (some ⟨w.heap.size + 1, 0, none⟩), .slice none 0 0, .pointer (some ⟨q + 1, 0, none⟩), u6, u7, u8, .agg #[.int .i64 N, .slice a lg.length cap], .agg #[.slice al T.length capl], .bool true, .bool false, .pointer (some ⟨w.heap.size, 0, none⟩), .int .i64 N, .slice (some ⟨q, 0, none⟩) N N, .pointer (some ⟨w.heap.size, 0, none⟩), .int .i64 N, u18, u19, u20, u21, u22, u23, u24, u25, u26, u27, u28, u29, u30, u31, u32, u33, u34, u35, u36, u37, u38, u39, u40, u41, u42, u43, u44, u45, u46], defers := ds }) (fun a' _ => N - (intOf (a'.tmps.getD 18 undef)).toNat) ?atStart ?round
    case atStart =>
      (repeat apply Exists.intro)
      refine ⟨?_, rfl⟩
      exact ⟨0, [], by omega, rfl, rfl, MarksOk.nil _ _, HK3.out, HST.out, Lib.hid (show Bd N (49 * ((0 : Nat) : Int)) (relN T N 0) from Bd.zero N)⟩
    case round =>
      clear HST HK3 HBX3 c0 c1 c2
      rintro a' wr ⟨u6, u7, u8, u18, u19, u20, u21, u22, u23, u24, u25, u26, u27, u28, u29, u30, u31, u32, u33, u34, u35, u36, u37, u38, u39, u40, u41, u42, u43, u44, u45, u46, ds, ⟨r, Ds, hrN, rfl, rfl, hmk, HK, HOW, HBD⟩, rfl⟩
      have HMK := Lib.hid hmk
      clear hmk
      by_cases hlt : r < N
      · have d0 : decide ((r : Int) < (N : Int)) = true := decide_eq_true (by omega)
        obtain ⟨c0, c1, c2, -, -⟩ := HK.out
        obtain ⟨H1, hH1⟩ : ∃ H1, H1 = relN T N r := ⟨_, rfl⟩
        have HH1 := Lib.hid hH1
        rw [← hH1] at HOW HBD
        clear hH1
        gi_wp2
        clear c0 c1 c2
        refine wpIn_loop (fun a' w' => ∃ (u6 u7 u8 u23 u24 u25 u26 u27 u28 u29 u30 u31 u32 u33 u34 u35 u36 u37 u38 u39 u40 u41 u42 u43 u44 u45 u46 : Value) (ds : List Deferred), (∃ (v : Nat) (Ds : List Nat), v ≤ T.length ∧ u23 = .int .i64 (v : Int) ∧ ds = markL Ds ∧ MarksOk (q + 2) Ds w' ∧ Hid (HgK w N (.slice al T.length capl) q w') ∧ Hid (OwnI q w' (.slice (some ⟨q, 0, none⟩) N N) (relV T H1 v)) ∧ Hid (Bd N (49 * (r : Int) + 7 * (v : Int)) (relV T H1 v))) ∧ a' = { tmps := #[.agg #[.int .i64 N, .slice a lg.length cap], .agg #[.slice al T.length capl], .pointer (some ⟨w.heap.size, 0, none⟩), .pointer (some ⟨w.heap.size + 1, 0, none⟩), .slice none 0 0, .pointer (some ⟨q + 1, 0, none⟩), u6, u7, u8, .agg #[.int .i64 N, .slice a lg.length cap], .agg #[.slice al T.length capl], .bool true, .bool false, .pointer (some ⟨w.heap.size, 0, none⟩), .int .i64 N, .slice (some ⟨q, 0, none⟩) N N, .pointer (some ⟨w.heap.size, 0, none⟩), .int .i64 N, .int .i64 (r : Int), .bool true, .pointer (some ⟨w.heap.size + 1, 0, none⟩), .slice al T.length capl, .int .i64 T.length, u23, u24, u25, u26, u27, u28, u29, u30, u31, u32, u33, u34, u35, u36, u37, u38, u39, u40, u41, u42, u43, u44, u45, u46], defers := ds }) (fun a' _ => T.length - (intOf (a'.tmps.getD 23 undef)).toNat) ?atStart ?round
        case atStart =>
          (repeat apply Exists.intro)
          refine ⟨?_, rfl⟩
          exact ⟨0, Ds, by omega, rfl, rfl, HMK.out, HK.out, HOW.out, Lib.hid (show Bd N (49 * (r : Int) + 7 * ((0 : Nat) : Int)) H1 from (by simpa using HBD.out))⟩
        case round =>
          clear HMK HK HOW HBD
          rintro a' wr ⟨u6, u7, u8, u23, u24, u25, u26, u27, u28, u29, u30, u31, u32, u33, u34, u35, u36, u37, u38, u39, u40, u41, u42, u43, u44, u45, u46, ds, ⟨v, Ds, hvT, rfl, rfl, hmk, HK, HOW, HBD⟩, rfl⟩
          have HMK := Lib.hid hmk
          clear hmk
          by_cases hlv : v < T.length
          · obtain ⟨b2, off2, capl', hv, hc2, hmx2, hbk2, hcell2⟩ := HL.out.pos (by omega)
            simp only [Value.slice.injEq] at hv
            obtain ⟨rfl, -, rfl⟩ := hv
            obtain ⟨X, hX, hXl, hX7⟩ := ori_row HO.out.1 v (by have := HTL.out; omega)
            have HXX := Lib.hid hX
            have HXL := Lib.hid (show X < 2 ^ N by rw [← HNL.out]; exact hXl)
            obtain ⟨H2, hH2⟩ : ∃ H2, H2 = relV T H1 v := ⟨_, rfl⟩
            have HH2 := Lib.hid hH2
            rw [← hH2] at HOW HBD
            have e1 := (HK.out.2.2.2.1.cell (p := ⟨b2, off2 + v, none⟩) hbk2).trans (hcell2 v hlv)
            rw [hX] at e1
            clear hcell2 hX hXl hH2
            obtain ⟨z, hz⟩ : ∃ z, z = wr.heap.size := ⟨_, rfl⟩
            obtain ⟨W1, hW1⟩ : ∃ W1, W1 = wr.alloc (.cells #[.int .i64 v] 3) := ⟨_, rfl⟩
            have hg1 : wr.grownBy W1 none := by rw [hW1]; exact grown_alloc wr _ none
            have HK1 := Lib.hid (HK.out.only HQW.out (Only.ofGrown hg1))
            have HMK1 := Lib.hid (HMK.out.grown hg1)
            have HOW1 := Lib.hid (show OwnI q W1 (.slice (some ⟨q, 0, none⟩) N N) H2 by rw [hW1]; exact HOW.out.alloc _)
            have HBZ := Lib.hid (show Boxed W1 z 3 (.int .i64 v) by rw [hW1, hz]; exact Boxed.new wr 3 (.int .i64 v))
            have hz1 : W1.heap.size = z + 1 := by rw [hW1, hz]; simp
            have HZQ := Lib.hid (show q + 2 ≤ z by have := HK.out.2.2.2.2; omega)
            obtain ⟨c0, c1, c2, -, -⟩ := HK.out
            unfold maxLen at hmx2
            gi_upto_region 9 with fail
            rw [← hW1, ← hz]
            have HZ := Lib.hid hz
            clear hW1 hz hg1 e1 c0 c1 c2
            obtain ⟨W2, hW2⟩ : ∃ W2, W2 = W1.alloc (.cells #[.int .i64 X] 3) := ⟨_, rfl⟩
            have hg2 : W1.grownBy W2 none := by rw [hW2]; exact grown_alloc W1 _ none
            have HG2 := Lib.hid hg2
            have hcB := Lib.hid (show W2.cell? ⟨z + 1, 0, none⟩ = some (.int .i64 X) by rw [hW2, ← hz1]; simp [go_sem])
            have hz2 : W2.heap.size = z + 2 := by rw [hW2]; simp [hz1]
            have HK2 := Lib.hid (HK1.out.only HQW.out (Only.ofGrown hg2))
            have HMK2 := Lib.hid (HMK1.out.grown hg2)
            have HOW2 := Lib.hid (show OwnI q W2 (.slice (some ⟨q, 0, none⟩) N N) H2 by rw [hW2]; exact HOW1.out.alloc _)
            have HBZ2 := Lib.hid (show Boxed W2 z 3 (.int .i64 v) by rw [hW2]; exact HBZ.out.alloc _)
            gi_wp2_with fail
            refine ⟨trivial, (callsIn_wide.2 (verticesIn_is X _)).mono ?_⟩
            rintro e w6 ⟨rfl, hw6⟩
            obtain rfl : w6 = W2 := by rw [hW2]; exact hw6.symm
            rw [hz1]
            clear hw6 hW2 hg2 hz1
            gi_wp2_with fail
            refine wpIn_rangeFunc_ownF (w0 := w6) rfl (by omega) (gf := 131) (lb := #[.pointer (some ⟨z + 1, 0, none⟩)]) rfl trivial (enters_of Try.func131 (by kernel_rfl) rfl)
              (vin_stopsC Fence.wide 5 trivial rfl (by omega) (z + 1) X w6 (by omega) hcB.out) keepC_t (keepC_b (by omega)) (Below.refl _ _) (fun _ => rfl)
              (HgI N q v H2 (49 * (r : Int) + 7 * (v : Int)) X w6) (fun _ _ _ => False) (hgI_own (by have := HZQ.out; omega)) (fun _ _ _ _ _ hs _ _ => hs)
              ⟨by show OwnI q w6 _ H2; exact HOW2.out, by show Bd N _ H2; simpa using HBD.out, Only.refl _ _ _⟩
              (fun y => { tmps := #[.agg #[.int .i64 N, .slice a lg.length cap], .agg #[.slice (some ⟨b2, off2, none⟩) T.length capl], .pointer (some ⟨w.heap.size, 0, none⟩), .pointer (some ⟨w.heap.size + 1, 0, none⟩), .slice none 0 0, .pointer (some ⟨q + 1, 0, none⟩), .pointer (some ⟨z, 0, none⟩), .int .i64 (X : Int), .int .i64 (y.1 : Int), .agg #[.int .i64 N, .slice a lg.length cap], .agg #[.slice (some ⟨b2, off2, none⟩) T.length capl], .bool true, .bool false, .pointer (some ⟨w.heap.size, 0, none⟩), .int .i64 N, .slice (some ⟨q, 0, none⟩) N N, .pointer (some ⟨w.heap.size, 0, none⟩), .int .i64 N, .int .i64 (r : Int), .bool true, .pointer (some ⟨w.heap.size + 1, 0, none⟩), .slice (some ⟨b2, off2, none⟩) T.length capl, .int .i64 T.length, .int .i64 (v : Int), .bool true, .int .i64 (v : Int), .pointer (some ⟨b2, off2 + v, none⟩), .int .i64 (X : Int), .int .i64 (X : Int), .func (.func 131) #[] #[.pointer (some ⟨z + 1, 0, none⟩)], .int .i64 (y.1 : Int), u31, u32, u33, u34, u35, u36, u37, u38, u39, u40, u41, u42, u43, u44, u45, u46], defers := [] }) ?assign ?body ?done ?stop
            case assign =>
              intro li y W K hK
              gi_wp2
              exact hK
            case body =>
              rintro li pre y W ⟨hq1, hq2, ho⟩ hlen
              obtain ⟨k, hk7, hkb⟩ := y
              have hkN : k < N := bit_lt HXL.out ((bitAt_nat X k).1 hkb)
              obtain ⟨c0, c1, c2, cB, cz⟩ := HK2.out.only HQW.out ho
              have c5 := (Boxed.keepOH HBZ2.out ho (.inr (by have := HZQ.out; omega))).cell
              have c6 := c2.cell
              have HON := Lib.hid ho
              have hvN : v < N := by have := HTL.out; have := HNL.out; omega
              have HPM := Lib.hid (show (pre ++ [(⟨k, hk7, hkb⟩ : Mem (X : Int))]).map (·.1) = pre.map (·.1) ++ [k] by simp)
              have HPL := Lib.hid (show ((pre ++ [(⟨k, hk7, hkb⟩ : Mem (X : Int))]).length : Int) = (pre.length : Int) + 1 by simp)
              obtain ⟨H3, hH3⟩ : ∃ H3, H3 = relW H2 v (pre.map (·.1)) := ⟨_, rfl⟩
              rw [← hH3] at hq1 hq2
              have HS := Lib.hid (show relW H2 v ((pre ++ [(⟨k, hk7, hkb⟩ : Mem (X : Int))]).map (·.1)) = relS H3 v k by rw [HPM.out, relW_snoc, ← hH3])
              have hpl : (pre.length : Int) ≤ 100000 := by have := hlen; omega
              have HB3 := Lib.hid hq2
              have HL3 := Lib.hid hq2.1
              obtain ⟨ha0, ha1⟩ := hq2.2 k
              obtain ⟨hb0, hb1⟩ := hq2.2 v
              obtain ⟨a9, ha⟩ : ∃ a, a = nth H3 k := ⟨_, rfl⟩
              obtain ⟨b9, hb⟩ : ∃ b, b = nth H3 v := ⟨_, rfl⟩
              rw [← ha] at ha0 ha1
              rw [← hb] at hb0 hb1
              have hO3 := hq1
              rcases hO3.form with ⟨h9, -⟩ | ⟨g9, cp9, h9, -, -, -, -, hcell9, hfr9⟩
              · cases h9
              simp only [Value.slice.injEq, Option.some.injEq, Addr.mk.injEq] at h9
              obtain ⟨⟨rfl, -, -⟩, -, -⟩ := h9
              have d1 := hcell9 k (by have := HL3.out; omega)
              have d2 := hcell9 v (by have := HL3.out; omega)
              have f1 := hfr9 k
              rw [← ha] at d1
              rw [← hb] at d2
              have g1 : IntKind.i64.wrap (b9 + 1) = b9 + 1 := IntWalk.i64_in _ (by omega)
              obtain ⟨M, hM⟩ : ∃ M, M = if a9 < b9 + 1 then b9 + 1 else a9 := ⟨_, rfl⟩
              have hM0 : 0 ≤ M ∧ M ≤ 1000000 := by rw [hM]; split <;> omega
              have hMm : max a9 (b9 + 1) = M := by rw [hM]; split <;> omega
              have HOS := Lib.hid (show OwnI q (W.drew.setCell ⟨q, k, none⟩ (.int .i64 M)) (.slice (some ⟨q, 0, none⟩) N N) (relW H2 v ((pre ++ [(⟨k, hk7, hkb⟩ : Mem (X : Int))]).map (·.1))) by
                have h1 : OwnI q W.drew (.slice (some ⟨q, 0, none⟩) H3.length N) H3 := by rw [HL3.out]; exact hO3
                have h2 := h1.set k M (by omega) (by omega)
                rw [HL3.out] at h2
                rw [HS.out]
                unfold relS
                rw [← ha, ← hb, hMm]
                exact h2.1)
              have HBS := Lib.hid (show Bd N (49 * (r : Int) + 7 * (v : Int) + ((pre ++ [(⟨k, hk7, hkb⟩ : Mem (X : Int))]).length : Int)) (relW H2 v ((pre ++ [(⟨k, hk7, hkb⟩ : Mem (X : Int))]).map (·.1))) by
                rw [HS.out, HPL.out, ← Int.add_assoc]
                exact HB3.out.rel hkN)
              have HOO := Lib.hid (show Only q (q + 1) w6 (W.drew.setCell ⟨q, k, none⟩ (.int .i64 M)) from ho.drew'.setCH (Nat.le_refl _) (by omega) _)
              have HMD := Lib.hid hM
              have hmix : Try.prog.follows .mixedOrders = true := by kernel_rfl
              clear hcell9 hfr9 hO3 ha hb hMm hM0 hM hq1 hq2 ho c0 c1 c2 cB cz hH3 hlen
              gi_wp2
              refine wpIn_region_still_tail 13 hmix (by kernel_rfl) (by kernel_rfl) ?_
              simp only [List.take_succ_cons, List.take_zero, List.drop_succ_cons, List.drop_zero]
              repeat still_step
              refine wpStill_nil ?_
              gi_wp2
              all_goals
                first
                  | (have hM1 : M = b9 + 1 := by rw [HMD.out]; exact if_pos (by omega)
                     rw [hM1] at HOS HOO)
                  | (have hM1 : M = a9 := by rw [HMD.out]; exact if_neg (by omega)
                     rw [hM1] at HOS HOO)
                refine ⟨(KeepsOthers.setCell _ _ _).trans (KeepsOthers.drew _), ?_, HOS.out, HBS.out, HOO.out⟩
                show (W.setCell ⟨q, k, none⟩ _).cell? ⟨z + 1, 0, none⟩ = _
                rw [World.cell?_setCell_far _ _ _ _ (by show q ≠ z + 1; have := HZQ.out; omega)]
            case done =>
              rintro D ys W hD hys ⟨hq1, hq2, ho⟩ hK
              have HKW := Lib.hid (HK2.out.only HQW.out ho)
              have HMW : Hid (MarksOk (q + 2) (D :: Ds) W) := (HMK2.out.keep fun E hE => ho.block E (HMK2.out.lt hE) (.inr (by have := (HMK2.out.2 E hE).1; omega))).cons (by have := HZQ.out; omega) hK fun hDD => by have := HMK2.out.lt hDD; omega
              have HE := Lib.hid (show relV T H1 (v + 1) = relW H2 v (ys.map (·.1)) by
                show relW (relV T H1 v) v (memU (nth T v) 7) = _
                rw [HXX.out, ← HH2.out, hys])
              have hyl : (ys.length : Int) ≤ 7 := by
                have h1 : (ys.map (·.1)).length ≤ 7 := by rw [hys]; exact memU_le _ _
                simp at h1
                omega
              have HQ1 := Lib.hid hq1
              have HQ2 := Lib.hid (hq2.mono (show 49 * (r : Int) + 7 * (v : Int) + ys.length ≤ 49 * (r : Int) + 7 * ((v + 1 : Nat) : Int) by omega))
              clear hq1 hq2 ho hys hK hyl
              gi_wp2
              refine ⟨?_, ?measure⟩
              (repeat apply Exists.intro)
              refine ⟨?rel, rfl⟩
              case rel => exact ⟨v + 1, D :: Ds, by omega, by go_num, rfl, HMW.out, HKW.out, by rw [HE.out]; exact HQ1.out, by rw [HE.out]; exact HQ2.out⟩
              case measure => simp [intOf]; omega
            case stop =>
              rintro D c pre W hD hpre h hK
              exact h.elim
          · obtain rfl : v = T.length := by omega
            have HE := Lib.hid (show relN T N (r + 1) = relV T H1 T.length by
              show relV T (relN T N r) N = _
              rw [← HH1.out, HTL.out, HNL.out])
            have HBD2 := Lib.hid (HBD.out.mono (show 49 * (r : Int) + 7 * (T.length : Int) ≤ 49 * ((r + 1 : Nat) : Int) by have := HTL.out; have := HNL.out; omega))
            gi_wp2
            refine ⟨?_, ?measure⟩
            (repeat apply Exists.intro)
            refine ⟨?rel, rfl⟩
            case rel => exact ⟨r + 1, Ds, by omega, by go_num, rfl, HMK.out, HK.out, by rw [HE.out]; exact HOW.out, by rw [HE.out]; exact HBD2.out⟩
            case measure => simp [intOf]; omega
      · obtain rfl : r = N := by omega
        have d0 : decide ((r : Int) < (r : Int)) = false := by simp
        have HE := Lib.hid (show R = relN T r r by rw [HRR.out]; unfold hgtR; rw [if_pos HO.out, HNL.out])
        have hc2 := HK.out.2.2.1.cell
        gi_wp2
        refine leave_with (Ds := Ds) HMK.out ?_
        refine ⟨_, by simp [results, Try.f64, go_sem]; rfl, ?_⟩
        rw [HE.out]
        exact ⟨_, rfl, (shut_ownH Ds _ HMK.out HOW.out).mono (by have := HQW.out; omega), shut_below (by have := HQW.out; omega) Ds _ HK.out.2.2.2.1 HMK.out⟩

end Go.Proofs.Ytcpchdnhhjhpaaa
