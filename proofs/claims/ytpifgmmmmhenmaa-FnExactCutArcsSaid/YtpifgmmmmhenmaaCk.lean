/- impl.CutArcs. -/
import Derived.Test.YtpifgmmmmhenmaaCi
import Derived.Sort.CutIn
import Derived.Deep.CutRange
import Derived.Deep.DeepCutAuto
import Derived.Deep.RegionWith
namespace Go.Proofs.Ytpifgmmmmhenmaa
set_option linter.unusedVariables false
set_option linter.unusedSimpArgs false
open Go.RowKit

theorem made_take (w : World) (N : Nat) (h : N ≤ 7) : (madeCells #[Value.int .i64 0] N).toList.take (N * 1) = iv (List.replicate N 0) := by
  have hrow := World.rowIs_made w (.int .i64 0) N 3
  have h1 := OwnI.of_row (B := w.heap.size) (l := List.replicate N 0) (by rw [List.length_replicate]; exact hrow) (fun i hi => by
    have hi' : i < N := by simpa using hi
    simp [nth, List.getD, hi']) (Nat.le_refl _) (fun x hx => by simp at hx; omega) (by rw [List.length_replicate]; unfold maxLen; omega)
  rw [List.length_replicate] at h1
  rcases h1.2.2 with ⟨hv, -⟩ | ⟨g, cap, cur, hv, hg, hk, hl, hm, hs, ht⟩
  · cases hv
  · simp only [Value.slice.injEq, Option.some.injEq, Addr.mk.injEq] at hv
    obtain ⟨⟨rfl, -, -⟩, -, -⟩ := hv
    have h2 : (w.alloc (.cells (madeCells #[.int .i64 0] N) 3)).heap[w.heap.size]? = some (.cells (madeCells #[.int .i64 0] N) 3) := by show (w.heap.push _)[w.heap.size]? = _; rw [Array.getElem?_push_size]
    rw [h2] at hk
    simp only [Option.some.injEq, Obj.cells.injEq] at hk
    rw [hk.1]
    rw [List.length_replicate] at ht
    exact ht

theorem own_of_heap {B q N : Nat} {w : World} (hq : B ≤ q) (hN : N ≤ 7) (h : w.heap[q]? = some (.cells (madeCells #[.int .i64 0] N) 3 (0, 0))) : OwnI B w (.slice (some ⟨q, 0, none⟩) N N) (List.replicate N 0) :=
  ⟨fun x hx => by simp at hx; omega, by simp [iv], .inr ⟨q, N, madeCells #[.int .i64 0] N, by simp, hq, h, by simp, by unfold maxLen; omega, by rw [size_madeCells]; simp, by rw [List.length_replicate]; exact made_take w N hN⟩⟩

theorem grown_setK (w : World) (q j : Nat) (u : Value) : w.grownBy (w.setCell ⟨q, j, none⟩ u) (some q) :=
  ⟨rfl, rfl, rfl, by simp, fun k _ hk => Below.heap_setCell w ⟨q, j, none⟩ u k (fun e => hk (by rw [e]))⟩

theorem heap_new (w : World) (o : Obj) : (w.alloc o).heap[w.heap.size]? = some o := by
  show (w.heap.push _)[w.heap.size]? = _
  rw [Array.getElem?_push_size]

theorem three_new (w : World) (a b c : Obj) : (((w.alloc a).alloc b).alloc c).drew.heap[w.heap.size]? = some a ∧ (((w.alloc a).alloc b).alloc c).drew.heap[w.heap.size + 1]? = some b ∧ (((w.alloc a).alloc b).alloc c).drew.heap[w.heap.size + 1 + 1]? = some c ∧ Below w.heap.size w (((w.alloc a).alloc b).alloc c).drew := by
  refine ⟨?_, ?_, ?_, ((((Below.refl _ w).alloc (Nat.le_refl _) _).alloc (by simp) _).alloc (by simp; omega) _).drew⟩
  · have h1 := heap_new w a
    exact ((Below.heap_alloc _ c _ (by simp; omega)).trans (Below.heap_alloc _ b _ (by simp))).trans h1
  · have h1 := heap_new (w.alloc a) b
    rw [World.size_alloc] at h1
    exact (Below.heap_alloc _ c _ (by simp)).trans h1
  · have h1 := heap_new ((w.alloc a).alloc b) c
    rw [World.size_alloc, World.size_alloc] at h1
    exact h1

/-- A row filled up to j. -/
def upTo (f : Nat → Int) (N j : Nat) : List Int := (List.range N).map fun i => if i < j then f i else 0

theorem upTo_length (f : Nat → Int) (N j : Nat) : (upTo f N j).length = N := by simp [upTo]

theorem upTo_at (f : Nat → Int) {N i : Nat} (j : Nat) (h : i < N) : nth (upTo f N j) i = if i < j then f i else 0 := by
  simp [nth, List.getD, upTo, List.getElem?_map, List.getElem?_range h]

theorem upTo_zero (f : Nat → Int) (N : Nat) : upTo f N 0 = List.replicate N 0 := by
  refine list_ext_nth (by simp [upTo]) fun i hi => ?_
  rw [upTo_length] at hi
  rw [upTo_at f 0 hi]
  simp [nth, List.getD, hi]

theorem upTo_full (f : Nat → Int) (N : Nat) : upTo f N N = (List.range N).map f := by
  refine List.map_congr_left fun i hi => ?_
  rw [if_pos (by simpa using hi)]

theorem upTo_set (f : Nat → Int) {N j : Nat} (h : j < N) : (upTo f N j).set j (f j) = upTo f N (j + 1) := by
  refine list_ext_nth (by simp [upTo]) fun i hi => ?_
  have hi' : i < N := by simpa [upTo] using hi
  rw [nth_set _ _ _ _ (by rw [upTo_length]; exact h), upTo_at f j hi', upTo_at f (j + 1) hi']
  by_cases e : i = j
  · subst e; simp
  · rw [if_neg e]
    by_cases h2 : i < j
    · rw [if_pos h2, if_pos (by omega)]
    · rw [if_neg h2, if_neg (by omega)]

def cutK (n : Int) (l m : List Int) (x : Int) (j : Nat) : Int := cutJ n l x j + nth m j - 1

theorem cut_bd {n : Int} {l m : List Int} {x : Int} (h : PtP n l m x) {j : Nat} (hj : j < l.length) : (0 ≤ cutJ n l x j ∧ cutJ n l x j < n) ∧ (0 ≤ cutK n l m x j ∧ cutK n l m x j ≤ 100) ∧ Int.tmod (nth l j - x + n) n = cutJ n l x j := by
  have h1 := h.1.2.2.2 j hj
  have h2 := h.1.1
  have h3 := h.2
  have a0 : 0 ≤ cutJ n l x j := Int.emod_nonneg _ (by omega)
  have a1 : cutJ n l x j < n := Int.emod_lt_of_pos _ (by omega)
  refine ⟨⟨a0, a1⟩, by unfold cutK; omega, ?_⟩
  rw [Int.tmod_eq_emod_of_nonneg (by omega)]
  rfl

set_option maxHeartbeats 4000000 in
set_option maxRecDepth 100000 in
theorem implCut (n : Int) (v u : Value) (l m : List Int) (x : Int) (w : World) (h : Ints w v l) (g : Ints w u m) (hl : l.length ≤ 1048576) (hm : m.length ≤ 1048576) :
    Calls Try.prog 36 #[.agg #[.int .i64 n, v, u], .int .i64 x] w (GetsII2 w.heap.size w (cutA n l m x) (cutB n l m x) (decide (CutP n l m x))) := by
  obtain ⟨ad, cap, rfl, -, -⟩ := h.form
  obtain ⟨bd, cap', rfl, -, -⟩ := g.form
  have HI := Lib.hid h
  have HJ := Lib.hid g
  obtain ⟨w0, hw0⟩ : ∃ w0, w0 = (w.alloc (.cells #[.int .i64 n, .slice ad l.length cap, .slice bd m.length cap'] 55)).alloc (.cells #[.slice none 0 0, .slice none 0 0] 52) := ⟨_, rfl⟩
  have F0 := Lib.hid (show Below w.heap.size w w0 by rw [hw0]; exact ((Below.refl _ w).alloc (Nat.le_refl _) _).alloc (by simp) _)
  have A0 := Lib.hid (show Box w.heap.size [.int .i64 n, .slice ad l.length cap, .slice bd m.length cap'] w0 by rw [hw0]; exact (Box.new w _ _).keep (grown_alloc _ _ none) (by simp))
  have C0 := Lib.hid (show Box (w.heap.size + 1) [.slice none 0 0, .slice none 0 0] w0 by rw [hw0]; have h := Box.new (w.alloc (.cells #[.int .i64 n, .slice ad l.length cap, .slice bd m.length cap'] 55)) 52 [.slice none 0 0, .slice none 0 0]; simpa using h)
  have HX : Hid (∀ W, Below w0.heap.size w0 W → W.cell? ⟨w.heap.size, 0, none⟩ = some (.int .i64 n) ∧ W.cell? ⟨w.heap.size, 1, none⟩ = some (.slice ad l.length cap) ∧ W.cell? ⟨w.heap.size, 2, none⟩ = some (.slice bd m.length cap') ∧ Box (w.heap.size + 1) [.slice none 0 0, .slice none 0 0] W ∧ Below w.heap.size w W ∧ w.heap.size + 2 ≤ W.heap.size) := fun W hW => ⟨(A0.out.on hW).1 0 _ rfl, (A0.out.on hW).1 1 _ rfl, (A0.out.on hW).1 2 _ rfl, C0.out.on hW, F0.out.trans (hW.mono F0.out.size), by have := C0.out.2.2; have := hW.size; omega⟩
  clear h g
  go_enter Try.func36, Try.ntmps36
  go_wp2_with fail
  rw [← hw0]
  clear hw0
  refine (hasPoint_is n _ _ l m x _ (HI.out.on F0.out) (HJ.out.on F0.out) hl hm).mono ?_
  rintro e w1 ⟨r, rfl, hr, hb⟩
  have H1 := Lib.hid hb
  clear hb
  obtain ⟨x0, x1, x2, xb, xB, xz⟩ := HX.out _ H1.out
  have r0 := xb.1 0 _ rfl
  have r1 := xb.1 1 _ rfl
  have r2 := xb.2.1 0
  have r3 := xb.2.1 1
  have HEND : Hid (∀ W, Below w0.heap.size w0 W → ¬ CutP n l m x → GetsII2 w.heap.size w (cutA n l m x) (cutB n l m x) (decide (CutP n l m x)) (.returned (.tuple #[.agg #[.slice none 0 0, .slice none 0 0], .bool false])) ((W.setCell ⟨w.heap.size + 1, 0, none⟩ (.slice none 0 0)).setCell ⟨w.heap.size + 1, 1, none⟩ (.slice none 0 0))) := fun W hW hn => by
    obtain ⟨e1, e2, e3⟩ := cut_no hn
    rw [e1, e2, e3]
    exact gets_none (((HX.out W hW).2.2.2.2.1.setCell (p := ⟨w.heap.size + 1, 0, none⟩) (by show w.heap.size ≤ w.heap.size + 1; omega) _).setCell (p := ⟨w.heap.size + 1, 1, none⟩) (by show w.heap.size ≤ w.heap.size + 1; omega) _)
  have HBX : Hid (∀ W, Below w0.heap.size w0 W → ((W.setCell ⟨w.heap.size + 1, 0, none⟩ (.slice none 0 0)).setCell ⟨w.heap.size + 1, 1, none⟩ (.slice none 0 0)).cell? ⟨w.heap.size + 1, 0, none⟩ = some (.slice none 0 0) ∧ ((W.setCell ⟨w.heap.size + 1, 0, none⟩ (.slice none 0 0)).setCell ⟨w.heap.size + 1, 1, none⟩ (.slice none 0 0)).cell? ⟨w.heap.size + 1, 1, none⟩ = some (.slice none 0 0)) := fun W hW => by
    have h1 := ((HX.out W hW).2.2.2.1.set 0 (.slice none 0 0)).set 1 (.slice none 0 0)
    exact ⟨h1.1 0 _ rfl, h1.1 1 _ rfl⟩
  clear xb xB
  cases r with
  | false =>
    have HN := Lib.hid (HEND.out w1 H1.out (fun h => absurd (hr.2 h.1) (by decide)))
    obtain ⟨b0, b1⟩ := HBX.out w1 H1.out
    clear hr
    go_wp2
    refine bodyPost_ret (v := .tuple #[.agg #[.slice none 0 0, .slice none 0 0], .bool false]) (by simp [results, Try.f36, go_sem, b0, b1]) rfl ?_
    exact HN.out
  | true =>
    have HPT := Lib.hid (hr.1 rfl)
    clear hr
    go_wp2_with fail
    refine (implArcsAt n _ _ l m x _ (HI.out.on (HX.out _ H1.out).2.2.2.2.1) (HJ.out.on (HX.out _ H1.out).2.2.2.2.1) hl hm).mono ?_
    rintro e w2 ⟨rfl, hb⟩
    have H2 := Lib.hid (H1.out.trans (hb.mono H1.out.size))
    clear hb x0 x1 x2 r0 r1 r2 r3 xz
    obtain ⟨x0, x1, x2, xb, xB, xz⟩ := HX.out _ H2.out
    have r0 := xb.1 0 _ rfl
    have r1 := xb.1 1 _ rfl
    have r2 := xb.2.1 0
    have r3 := xb.2.1 1
    have HZ := Lib.hid (arcR_zero HPT.out)
    obtain ⟨R, hR⟩ : ∃ R, R = arcR n l m x := ⟨_, rfl⟩
    rw [← hR] at HZ ⊢
    clear hR xb xB
    by_cases hR0 : R = 0
    · have q0 : (R != 0) = false := by simp [hR0]
      have HC := Lib.hid (HZ.out.1 hR0)
      have hN1 := HPT.out.1.2.1.1
      have hN7 := HPT.out.1.2.1.2
      obtain ⟨N, hN⟩ : ∃ N, N = l.length := ⟨_, rfl⟩
      have hmk := fun W : World => run_make_row' (P := Try.prog) 27 3 (.int .i64 0) 8 Try.underlying27 infoInt rfl .i64 .i64 l.length (by omega) (by omega) W
      have hz9 : w.heap.size < w2.heap.size := by omega
      clear r0 r1 r2 r3 hR0
      go_upto_region 3 with fail
      go_cut [6, 23, 27] from 20 to 28 (fun p s t wx => ∃ k q0 q1, p = .pointer (some ⟨k, 0, none⟩) ∧ s = .slice (some ⟨q0, 0, none⟩) l.length l.length ∧ t = .slice (some ⟨q1, 0, none⟩) l.length l.length ∧ wx.heap[q0]? = some (.cells (madeCells #[.int .i64 0] l.length) 3 (0, 0)) ∧ wx.heap[q1]? = some (.cells (madeCells #[.int .i64 0] l.length) 3 (0, 0)) ∧ wx.heap[k]? = some (.cells #[.slice (some ⟨q0, 0, none⟩) l.length l.length, .slice (some ⟨q1, 0, none⟩) l.length l.length] 52 (0, 0)) ∧ (w2.heap.size ≤ k ∧ w2.heap.size ≤ q0 ∧ w2.heap.size ≤ q1 ∧ q0 ≠ q1 ∧ k ≠ q0 ∧ k ≠ q1) ∧ Below w2.heap.size w2 wx)
      case first =>
        go_region
        all_goals
          go_wp2_with fail
          go_meet
          refine ⟨_, _, _, rfl, rfl, rfl, ?_, ?_, ?_, ?_, ?_⟩
        all_goals
          first
            | exact (three_new _ _ _ _).1
            | exact (three_new _ _ _ _).2.1
            | exact (three_new _ _ _ _).2.2.1
            | exact (three_new _ _ _ _).2.2.2
            | omega
      case rest =>
        obtain ⟨k, q0, q1, rfl, rfl, rfl, h0, h1, hk, ⟨z1, z2, z3, z4, z5, z6⟩, hbw⟩ := hcut
        have HB3 := Lib.hid hbw
        have HU0 := Lib.hid (show OwnI w2.heap.size wc (.slice (some ⟨q0, 0, none⟩) l.length l.length) (upTo (cutJ n l x) l.length 0) by rw [upTo_zero]; exact own_of_heap z2 hN7 h0)
        have HU1 := Lib.hid (show OwnI w2.heap.size wc (.slice (some ⟨q1, 0, none⟩) l.length l.length) (upTo (cutK n l m x) l.length 0) by rw [upTo_zero]; exact own_of_heap z3 hN7 h1)
        have HK0 := Lib.hid (show Box k [.slice (some ⟨q0, 0, none⟩) l.length l.length, .slice (some ⟨q1, 0, none⟩) l.length l.length] wc from ⟨fun i v hv => by
          match i, hv with
          | 0, hv => simp at hv; subst hv; simp [World.cell?, hk]
          | 1, hv => simp at hv; subst hv; simp [World.cell?, hk], fun i => by simp [World.frozen?, hk], (Array.getElem?_eq_some_iff.1 hk).1⟩)
        clear h0 h1 hk hbw x0 x1 x2 hmk
        have HX2 : Hid (∀ W, Below w2.heap.size w2 W → W.cell? ⟨w.heap.size, 0, none⟩ = some (.int .i64 n) ∧ W.cell? ⟨w.heap.size, 1, none⟩ = some (.slice ad l.length cap) ∧ W.cell? ⟨w.heap.size, 2, none⟩ = some (.slice bd m.length cap') ∧ Box (w.heap.size + 1) [.slice none 0 0, .slice none 0 0] W ∧ Below w.heap.size w W ∧ w.heap.size + 2 ≤ W.heap.size) := fun W hW => HX.out W (H2.out.trans (hW.mono H2.out.size))
        obtain ⟨x0, x1, x2, -, -, -⟩ := HX2.out wc HB3.out
        go_wp2
        clear x0 x1 x2
        go_loopw [7, 8, 32] (fun _ _ xi wr => ∃ j : Nat, j ≤ l.length ∧ xi = .int .i64 j ∧ Hid (OwnI w2.heap.size wr (.slice (some ⟨q0, 0, none⟩) l.length l.length) (upTo (cutJ n l x) l.length j)) ∧ Hid (OwnI w2.heap.size wr (.slice (some ⟨q1, 0, none⟩) l.length l.length) (upTo (cutK n l m x) l.length j)) ∧ Hid (Box k [.slice (some ⟨q0, 0, none⟩) l.length l.length, .slice (some ⟨q1, 0, none⟩) l.length l.length] wr) ∧ Hid (Below w2.heap.size w2 wr)) (fun _ _ xi _ => l.length - (intOf xi).toNat)
        case atStart => exact ⟨0, by omega, rfl, HU0, HU1, HK0, HB3⟩
        case round =>
          clear HU0 HU1 HK0 HB3
          obtain ⟨j, hj, rfl, HU0, HU1, HK0, HB3⟩ := hrel
          obtain ⟨x0, x1, x2, xb, xB, xz9⟩ := HX2.out wr HB3.out
          by_cases hlt : j < l.length
          · have d0 : decide ((j : Int) < (l.length : Int)) = true := decide_eq_true (by omega)
            have d0' : decide (j < l.length) = true := decide_eq_true hlt
            obtain ⟨⟨m0, m1⟩, ⟨n0, n1⟩, m2⟩ := cut_bd HPT.out hlt
            obtain ⟨t0, t1, t2, t3⟩ := HPT.out.1.2.2.2 j hlt
            obtain ⟨p0, p1⟩ := HPT.out.2
            obtain ⟨s0, s1⟩ := HPT.out.1.1
            have hml := HPT.out.1.2.2.1
            obtain ⟨bl, offl, cl, hv, _, hml1, hbl, hcl⟩ := HI.out.pos (by omega)
            simp only [Value.slice.injEq] at hv
            obtain ⟨rfl, -, rfl⟩ := hv
            obtain ⟨bm, offm, cm, hv, _, hml2, hbm, hcm⟩ := HJ.out.pos (by omega)
            simp only [Value.slice.injEq] at hv
            obtain ⟨rfl, -, rfl⟩ := hv
            unfold maxLen at hml1 hml2
            have f1 := (xB.cell (p := ⟨bl, offl + j, none⟩) hbl).trans (hcl j hlt)
            have hjm : j < m.length := by omega
            have hF2 : ∀ W, Below w.heap.size w W → W.cell? ⟨bm, offm + j, none⟩ = some (.int .i64 (nth m j)) := fun W hW => (hW.cell (p := ⟨bm, offm + j, none⟩) hbm).trans (hcm j hjm)
            obtain ⟨T, hT⟩ : ∃ T, T = nth l j := ⟨_, rfl⟩
            obtain ⟨Y, hY⟩ : ∃ Y, Y = nth m j := ⟨_, rfl⟩
            obtain ⟨M, hM⟩ : ∃ M, M = cutJ n l x j := ⟨_, rfl⟩
            obtain ⟨Q, hQ⟩ : ∃ Q, Q = cutK n l m x j := ⟨_, rfl⟩
            have hQM : Q = M + Y - 1 := by rw [hQ, hM, hY]; rfl
            rw [← hT] at f1 t0 t1 m2
            rw [← hY] at t2 t3 hF2
            rw [← hM] at m0 m1 m2
            rw [← hQ] at n0 n1
            obtain ⟨P1, hP1⟩ : ∃ z : Int, z = T - x := ⟨_, rfl⟩
            have e1 : IntKind.i64.wrap (T - x) = P1 := (IntWalk.i64_in _ (by omega)).trans hP1.symm
            obtain ⟨P2, hP2⟩ : ∃ z : Int, z = P1 + n := ⟨_, rfl⟩
            have e2 : IntKind.i64.wrap (P1 + n) = P2 := (IntWalk.i64_in _ (by omega)).trans hP2.symm
            have m3 : Int.tmod P2 n = M := by rw [hP2, hP1]; exact m2
            have m4 : P2 % n = M := by rw [← m3, Int.tmod_eq_emod_of_nonneg (by omega)]
            have e3 : IntKind.i64.wrap M = M := IntWalk.i64_in _ (by omega)
            have z0 : (n == 0) = false := by rw [beq_eq_false_iff_ne]; omega
            have hn0 : n ≠ 0 := by omega
            have hn0' : ¬ n = 0 := by omega
            have e4 : IntKind.i64.wrap (M + Y) = M + Y := IntWalk.i64_in _ (by omega)
            have e5 : IntKind.i64.wrap (M + Y - 1) = Q := by rw [hQM]; exact IntWalk.i64_in _ (by omega)
            have HS0 := Lib.hid (show (upTo (cutJ n l x) l.length j).set j M = upTo (cutJ n l x) l.length (j + 1) by rw [hM]; exact upTo_set _ hlt)
            have HS1 := Lib.hid (show (upTo (cutK n l m x) l.length j).set j Q = upTo (cutK n l m x) l.length (j + 1) by rw [hQ]; exact upTo_set _ hlt)
            have hO0 := HU0.out
            rcases hO0.form with ⟨h9, -⟩ | ⟨g9, cp9, h9, -, -, -, -, hc0, hf0⟩
            · cases h9
            simp only [Value.slice.injEq, Option.some.injEq, Addr.mk.injEq] at h9
            obtain ⟨⟨rfl, -, -⟩, -, -⟩ := h9
            have c0 := hc0 j (by rw [upTo_length]; exact hlt)
            have f0 := hf0 j
            have k0 := HK0.out.1 0 _ rfl
            have k1 := HK0.out.1 1 _ rfl
            obtain ⟨w7, hw7⟩ : ∃ w7, w7 = (wr.setCell ⟨q0, j, none⟩ (.int .i64 M)).drew := ⟨_, rfl⟩
            have HU07 := Lib.hid (show OwnI w2.heap.size w7 (.slice (some ⟨q0, 0, none⟩) l.length l.length) (upTo (cutJ n l x) l.length (j + 1)) by
              have h1 : OwnI w2.heap.size wr (.slice (some ⟨q0, 0, none⟩) (upTo (cutJ n l x) l.length j).length l.length) (upTo (cutJ n l x) l.length j) := by rw [upTo_length]; exact hO0
              have h2 := h1.set j M (by omega) (by omega)
              rw [upTo_length, HS0.out] at h2
              rw [hw7]
              exact h2.1)
            have HU17 := Lib.hid (show OwnI w2.heap.size w7 (.slice (some ⟨q1, 0, none⟩) l.length l.length) (upTo (cutK n l m x) l.length j) by
              have h1 : OwnI w2.heap.size wr (.slice (some ⟨q1, 0, none⟩) l.length l.length) (upTo (cutK n l m x) l.length j) := HU1.out
              rw [hw7]
              exact (show OwnI w2.heap.size (wr.setCell ⟨q0, j, none⟩ (.int .i64 M)) _ _ from h1.kept (grown_setK wr q0 j _) (.inr fun e => z4 (Option.some.inj e).symm)))
            have HK7 := Lib.hid (show Box k [.slice (some ⟨q0, 0, none⟩) l.length l.length, .slice (some ⟨q1, 0, none⟩) l.length l.length] w7 by
              have h1 : Box k [.slice (some ⟨q0, 0, none⟩) l.length l.length, .slice (some ⟨q1, 0, none⟩) l.length l.length] wr := HK0.out
              rw [hw7]
              exact h1.other ⟨q0, j, none⟩ (fun e => z5 (show k = q0 from e.symm)) _)
            have HB7 := Lib.hid (show Below w2.heap.size w2 w7 by rw [hw7]; exact (HB3.out.setCell (p := ⟨q0, j, none⟩) z2 _).drew)
            clear hc0 hf0 hO0 hcl hcm hT hY hM hQ hP1 hP2 xb m2 hml
            subst hQM
            go_wp2
            go_still_tail 13, (by kernel_rfl)
            change wpList _ _ _ _ _ wr.drew
            go_wp2
            rw [← hw7]
            clear hw7 x0 x1 x2 k0 k1 c0 f0 f1
            obtain ⟨x0, x1, x2, -, xB7, -⟩ := HX2.out w7 HB7.out
            have f2 := hF2 w7 xB7
            have hO0 := HU07.out
            rcases hO0.form with ⟨h9, -⟩ | ⟨g9, cp9, h9, -, -, -, -, hc0, hf0⟩
            · cases h9
            simp only [Value.slice.injEq, Option.some.injEq, Addr.mk.injEq] at h9
            obtain ⟨⟨rfl, -, -⟩, -, -⟩ := h9
            have c0 := hc0 j (by rw [upTo_length]; exact hlt)
            have HM0 := Lib.hid (show nth (upTo (cutJ n l x) l.length (j + 1)) j = M by
              rw [← HS0.out, nth_set _ _ _ _ (by rw [upTo_length]; exact hlt), if_pos rfl])
            rw [HM0.out] at c0
            have hO1 := HU17.out
            rcases hO1.form with ⟨h9, -⟩ | ⟨g9, cp9, h9, -, -, -, -, hc1, hf1⟩
            · cases h9
            simp only [Value.slice.injEq, Option.some.injEq, Addr.mk.injEq] at h9
            obtain ⟨⟨rfl, -, -⟩, -, -⟩ := h9
            have c1 := hc1 j (by rw [upTo_length]; exact hlt)
            have g1 := hf1 j
            have k0 := HK7.out.1 0 _ rfl
            have k1 := HK7.out.1 1 _ rfl
            obtain ⟨w8, hw8⟩ : ∃ w8, w8 = (w7.setCell ⟨q1, j, none⟩ (.int .i64 (M + Y - 1))).drew := ⟨_, rfl⟩
            have HU18 := Lib.hid (show OwnI w2.heap.size w8 (.slice (some ⟨q1, 0, none⟩) l.length l.length) (upTo (cutK n l m x) l.length (j + 1)) by
              have h1 : OwnI w2.heap.size w7 (.slice (some ⟨q1, 0, none⟩) (upTo (cutK n l m x) l.length j).length l.length) (upTo (cutK n l m x) l.length j) := by rw [upTo_length]; exact hO1
              have h2 := h1.set j (M + Y - 1) (by omega) (by omega)
              rw [upTo_length, HS1.out] at h2
              rw [hw8]
              exact h2.1)
            have HU08 := Lib.hid (show OwnI w2.heap.size w8 (.slice (some ⟨q0, 0, none⟩) l.length l.length) (upTo (cutJ n l x) l.length (j + 1)) by
              rw [hw8]
              exact (show OwnI w2.heap.size (w7.setCell ⟨q1, j, none⟩ (.int .i64 (M + Y - 1))) _ _ from HU07.out.kept (grown_setK w7 q1 j _) (.inr fun e => z4 (Option.some.inj e))))
            have HK8 := Lib.hid (show Box k [.slice (some ⟨q0, 0, none⟩) l.length l.length, .slice (some ⟨q1, 0, none⟩) l.length l.length] w8 by
              rw [hw8]
              exact HK7.out.other ⟨q1, j, none⟩ (fun e => z6 (show k = q1 from e.symm)) _)
            have HB8 := Lib.hid (show Below w2.heap.size w2 w8 by rw [hw8]; exact (HB7.out.setCell (p := ⟨q1, j, none⟩) z3 _).drew)
            clear hc0 hf0 hO0 hc1 hf1 hO1 xB7
            subst hw8
            go_wp2
            go_still_tail 16, (by kernel_rfl)
            change wpList _ _ _ _ _ w7.drew
            go_wp2
            go_roundw
            case rel => exact ⟨j + 1, by omega, by go_num, HU08, HU18, HK8, HB8⟩
            case measure => simp [intOf]; omega
          · obtain rfl : j = l.length := by omega
            have d0 : decide ((l.length : Int) < (l.length : Int)) = false := by simp
            have d0' : decide (l.length < l.length) = false := by simp
            have k0 := HK0.out.1 0 _ rfl
            have k1 := HK0.out.1 1 _ rfl
            have r0 := xb.1 0 _ rfl
            have r1 := xb.1 1 _ rfl
            have r2 := xb.2.1 0
            have r3 := xb.2.1 1
            have hbx := (xb.set 0 (.slice (some ⟨q0, 0, none⟩) l.length l.length)).set 1 (.slice (some ⟨q1, 0, none⟩) l.length l.length)
            have b0 := hbx.1 0 _ rfl
            have b1 := hbx.1 1 _ rfl
            have HA := Lib.hid (show cutA n l m x = upTo (cutJ n l x) l.length l.length by rw [upTo_full]; exact if_pos HC.out)
            have HBB := Lib.hid (show cutB n l m x = upTo (cutK n l m x) l.length l.length by rw [upTo_full]; exact if_pos HC.out)
            have HD := Lib.hid (show decide (CutP n l m x) = true from decide_eq_true HC.out)
            have HWB := Lib.hid xB
            clear xb hbx
            go_wp2
            refine bodyPost_ret (v := .tuple #[.agg #[.slice (some ⟨q0, 0, none⟩) l.length l.length, .slice (some ⟨q1, 0, none⟩) l.length l.length], .bool true]) (by simp [results, Try.f36, go_sem, b0, b1]) rfl ?_
            rw [HA.out, HBB.out, HD.out]
            refine ⟨_, _, rfl, ((HU0.out.setBelow (by show w.heap.size + 1 < _; omega) _).setBelow (by show w.heap.size + 1 < _; omega) _).mono (by omega), ((HU1.out.setBelow (by show w.heap.size + 1 < _; omega) _).setBelow (by show w.heap.size + 1 < _; omega) _).mono (by omega), fun k' h1 h2 => z4 ?_, (HWB.out.setCell (p := ⟨w.heap.size + 1, 0, none⟩) (by show w.heap.size ≤ w.heap.size + 1; omega) _).setCell (p := ⟨w.heap.size + 1, 1, none⟩) (by show w.heap.size ≤ w.heap.size + 1; omega) _⟩
            exact (Option.some.inj h1).trans (Option.some.inj h2).symm
    · have q0 : (R != 0) = true := by simp [hR0]
      have HN := Lib.hid (HEND.out w2 H2.out (fun h => hR0 (HZ.out.2 h)))
      obtain ⟨b0, b1⟩ := HBX.out w2 H2.out
      clear hR0
      go_wp2
      refine bodyPost_ret (v := .tuple #[.agg #[.slice none 0 0, .slice none 0 0], .bool false]) (by simp [results, Try.f36, go_sem, b0, b1]) rfl ?_
      exact HN.out

end Go.Proofs.Ytpifgmmmmhenmaa
