/- impl.CoversCircle. -/
import Derived.Test.YtgfndgjabhabjaaCx
import Derived.Test.YtgfndgjabhabjaaCw
import Derived.Test.YtgfndgjabhabjaaCv
import Derived.Test.YtgfndgjabhabjaaY21
import Derived.Test.YtgfndgjabhabjaaY2
import Derived.Test.YtgfndgjabhabjaaV5
import Derived.Test.YtgfndgjabhabjaaQi
import Derived.Test.YtgfndgjabhabjaaRq
import Derived.BigQuiet
import Derived.Sort.CutIn
namespace Go.Proofs.Ytgfndgjabhabjaa
set_option linter.unusedVariables false
set_option linter.unusedSimpArgs false
open Go.RowKit Go.Shelf
attribute [local go_sem] Oper.semAt_some

/-- What the arcs that have come hold. -/
def covB (n : Int) (l m : List Int) (vs : List Nat) (t : Nat) : Bool := vs.any fun i => onB n (nth l i) (nth m i).toNat t

theorem covB_snoc (n : Int) (l m : List Int) (vs : List Nat) (i : Nat) : (fun t => covB n l m vs t || onB n (nth l i) (nth m i).toNat t) = covB n l m (vs ++ [i]) := by
  funext t
  simp [covB]

theorem covB_nil (n : Int) (l m : List Int) : rowB (covB n l m []) = List.replicate 30 (Value.bool false) := by
  rw [← whole_zero]
  refine rowB_inj.2 fun x _ => ?_
  simp [covB, wholeB]

theorem mem_bitC {X v : Nat} (hX : X < 128) : v ∈ memN X ↔ X.testBit v = true := ⟨fun h => (mem_memN h).2, fun h => by
  unfold memN
  simp [h]
  exact bit_lt (n := 7) (by simpa using hX) h⟩

theorem cov_is {n : Int} {l m : List Int} (hA : ArcsP n l m) {X : Nat} (hX : X < 2 ^ l.length) : ((List.range 30).all fun x => covB n l m (memN X) x == wholeB n.toNat x) = true ↔ CovP n l m (X : Int) := by
  have h128 := two_le l.length hA.2.1.2
  have hX7 : X < 128 := by omega
  have hp : ((2 ^ l.length : Nat) : Int) = (2 : Int) ^ l.length := by push_cast; rfl
  have hn3 := hA.1.1
  have hn30 := hA.1.2
  have hall := hA.2.2.2
  have key : ∀ t, t < 30 → (covB n l m (memN X) t = true ↔ (t : Int) < n ∧ ∃ i, i < l.length ∧ X.testBit i = true ∧ ArcOn n l m i t) := fun t ht => by
    unfold covB
    rw [List.any_eq_true]
    constructor
    · rintro ⟨i, hi, ho⟩
      have hb := (mem_memN hi).2
      have hil := bit_lt hX hb
      obtain ⟨a0, a1, a2, a3⟩ := hall i hil
      have htn : (t : Int) < n := by
        unfold onB at ho
        obtain ⟨k, -, hk⟩ := of_decide_eq_true ho
        have := Int.emod_lt_of_pos (nth l i + (k : Int)) (show 0 < n by omega)
        omega
      refine ⟨htn, i, hil, hb, ?_⟩
      have := on_arc (t := (t : Int)) ⟨hA, by omega, htn⟩ hil
      rw [Int.toNat_natCast, ho] at this
      exact of_decide_eq_true this.symm
    · rintro ⟨htn, i, hil, hb, ho⟩
      refine ⟨i, (mem_bitC hX7).2 hb, ?_⟩
      have := on_arc (t := (t : Int)) ⟨hA, by omega, htn⟩ hil
      rw [Int.toNat_natCast] at this
      rw [this]
      exact decide_eq_true ho
  rw [List.all_eq_true]
  unfold CovP
  constructor
  · intro h
    refine ⟨hA, ⟨by omega, by omega⟩, fun t ht => (cov_point hA hX7 (by omega)).2 ?_⟩
    have h1 := h t (List.mem_range.2 (by omega))
    rw [beq_iff_eq] at h1
    have h2 : wholeB n.toNat t = true := decide_eq_true ht
    rw [h2] at h1
    exact ((key t (by omega)).1 h1).2
  · rintro ⟨-, -, h⟩ t ht
    have ht := List.mem_range.1 ht
    rw [beq_iff_eq, Bool.eq_iff_iff, key t ht]
    constructor
    · rintro ⟨h1, -⟩
      exact decide_eq_true (by omega)
    · intro h1
      have h1 := of_decide_eq_true h1
      exact ⟨by omega, (cov_point hA hX7 (by omega)).1 (h t (by omega))⟩

theorem grown_setC (w : World) (q j : Nat) (u : Value) : w.grownBy (w.setCell ⟨q, j, none⟩ u) (some q) :=
  ⟨rfl, rfl, rfl, by simp, fun k _ hk => Below.heap_setCell w ⟨q, j, none⟩ u k (fun e => hk (by rw [e]))⟩

theorem grown_setCells (b : Nat) : ∀ (vs : List Value) (o : Nat) (w : World), w.grownBy (w.setCells b o vs) (some b)
  | [], _, w => World.grownBy.refl w _
  | v :: r, o, w => grown_trans (grown_setC w b o v) (grown_setCells b r (o + 1) _)

theorem keeps_setCells (b : Nat) : ∀ (vs : List Value) (o : Nat) (w : World), KeepsOthers w (w.setCells b o vs)
  | [], _, w => KeepsOthers.refl w
  | v :: r, o, w => (KeepsOthers.setCell w ⟨b, o, none⟩ v).trans (keeps_setCells b r (o + 1) _)

/-- A whole row stored. -/
theorem RowS.store {g : Nat} {cs vs : List Value} {w : World} (h : RowS g cs w) (hl : vs.length = cs.length) : RowS g vs (w.setCells g 0 vs) := by
  refine ⟨World.rangeAt_setCells_same _ _ _ _ fun a ha => ⟨?_, h.2.1 _⟩, fun o => by rw [World.frozen?_setCells]; exact h.2.1 o, Nat.lt_of_lt_of_le h.2.2 (grown_setCells g vs 0 w).size⟩
  have := h.1.isSome a (by omega)
  simpa using this

theorem RowS.storing {g : Nat} {cs vs : List Value} {w : World} (h : RowS g cs w) (hl : vs.length = cs.length) (h1 : ∀ v ∈ vs, v.oneCell' = true) : (storeCells ⟨g, 0, none⟩ vs).run Try.prog w = .ok () (w.setCells g 0 vs) := by
  have := run_storeCells_cells (P := Try.prog) g 0 vs 0 w (fun j hj => by have := h.1.isSome j (by omega); simpa using this) (fun j hj => by simpa using h.2.1 j) h1
  simpa using this

theorem rowB_mem (p : Nat → Bool) : ∀ v ∈ rowB p, v.oneCell' = true := fun v hv => by
  unfold rowB at hv
  obtain ⟨a, -, rfl⟩ := List.mem_map.1 hv
  rfl

theorem wf_bdC {x : Int} (h : (Lit.int .i64 x).wf = true) : -9223372036854775808 ≤ x ∧ x ≤ 9223372036854775807 := by
  simp only [Lit.wf, Bool.and_eq_true, decide_eq_true_eq] at h
  exact h

/-- Between two rounds. -/
def CovI (n : Int) (l m : List Int) (X q : Nat) (w2 : World) (pre : List (Mem (X : Int))) (W : World) : Prop := RowS q (rowB (covB n l m (pre.map (·.1)))) W ∧ w2.grownBy W (some q)

theorem RowS.keep {g : Nat} {cs : List Value} {w w' : World} {row : Option Nat} (h : RowS g cs w) (hg : w.grownBy w' row) (hr : row ≠ some g) : RowS g cs w' := by
  obtain ⟨hc, hf⟩ := gcell hg
  refine ⟨fun i v hv => ?_, fun o => ?_, Nat.lt_of_lt_of_le h.2.2 hg.size⟩
  · rw [hc _ _ h.2.2 (by show some g ≠ row; exact fun e => hr e.symm)]; exact h.1 i v hv
  · rw [hf _ _ h.2.2 (by show some g ≠ row; exact fun e => hr e.symm)]; exact h.2.1 o

theorem covI_own {n : Int} {l m : List Int} {X q : Nat} {w2 : World} (hq : q < w2.heap.size) : OwnFrom w2.heap.size (CovI n l m X q w2) := fun s A B row hs hg hr =>
  ⟨hs.1.keep hg (fun e => by have := (hr q e).1; omega), grown_then hs.2 hg fun r e => (hr r e).1⟩

set_option maxHeartbeats 4000000 in
set_option maxRecDepth 100000 in
theorem implCovers (n : Int) (v u : Value) (l m : List Int) (x : Int) (w : World) (h : Ints w v l) (g : Ints w u m) (hl : l.length ≤ 1048576) (hm : m.length ≤ 1048576) (hx0 : -9223372036854775808 ≤ x) (hx1 : x ≤ 9223372036854775807) :
    Calls Try.prog 18 #[.agg #[.int .i64 n, v, u], .int .i64 x] w (SaysB (CovP n l m x) w) := by
  obtain ⟨ad, cap, rfl, -, -⟩ := h.form
  obtain ⟨bd, cap', rfl, -, -⟩ := g.form
  have HI := Lib.hid h
  have HJ := Lib.hid g
  clear h g
  refine (callsIn_wide (n := 5)).1 ?_
  refine callsIn_of_wp_marks Try.func18 rfl trivial ?_ rfl
  simp only [Try.ntmps18, List.size_toArray, List.length_cons, List.length_nil, Nat.reduceAdd, Nat.reduceSub, Array.replicate_succ, Array.replicate_zero, List.push_toArray, List.append_toArray, List.nil_append, List.cons_append]
  obtain ⟨W0, hW0⟩ : ∃ W0, W0 = w.alloc (.cells #[.int .i64 n, .slice ad l.length cap, .slice bd m.length cap'] 27) := ⟨_, rfl⟩
  have F0 := Lib.hid (show Below w.heap.size w W0 by rw [hW0]; exact (Below.refl _ w).alloc (Nat.le_refl _) _)
  have A0 := Lib.hid (show Box w.heap.size [.int .i64 n, .slice ad l.length cap, .slice bd m.length cap'] W0 by rw [hW0]; exact Box.new w _ _)
  gi_wp2_with fail
  rw [← hW0]
  refine ⟨trivial, (callsIn_wide.2 (implIsArcs n _ _ l m _ (HI.out.on F0.out) (HJ.out.on F0.out) hl hm)).mono ?_⟩
  rintro e w1 ⟨r, rfl, hr, hb⟩
  have HRR := Lib.hid hr
  have F1 := Lib.hid (F0.out.trans (hb.mono F0.out.size))
  have A1 := Lib.hid (A0.out.on hb)
  clear hr hb hW0 A0 F0
  have x0 := A1.out.1 0 _ rfl
  have x1 := A1.out.1 1 _ rfl
  have x2 := A1.out.1 2 _ rfl
  have cz := A1.out.2.2
  cases r with
  | false =>
    have HN := Lib.hid (show ¬ CovP n l m x from fun h => absurd (HRR.out.2 h.1) (by decide))
    gi_wp2
    refine ⟨_, by simp [results, Try.f18, go_sem]; rfl, ?_⟩
    exact SaysB.no HN.out F1.out
  | true =>
    have HP := Lib.hid (HRR.out.1 (by first | rfl | trivial))
    have h7 : l.length ≤ 7 := HP.out.2.1.2
    obtain ⟨P, eP, hP1, hP2⟩ : ∃ P, (2 : Int) ^ l.length = P ∧ 1 ≤ P ∧ P ≤ 128 := ⟨_, rfl, by have := two_pos l.length; omega, by have := two_le _ h7; have e : ((2 ^ l.length : Nat) : Int) = (2 : Int) ^ l.length := (by push_cast; rfl); omega⟩
    have HPE := Lib.hid eP
    by_cases hxn : x < 0
    · have d0 : decide (x < 0) = true := decide_eq_true hxn
      have HN := Lib.hid (show ¬ CovP n l m x from fun h => by have := h.2.1.1; omega)
      clear hxn
      gi_wp2
      refine ⟨_, by simp [results, Try.f18, go_sem]; rfl, ?_⟩
      exact SaysB.no HN.out F1.out
    · have d0 : decide (x < 0) = false := decide_eq_false hxn
      by_cases hxb : x < P
      · have q0 : x / P = 0 := Int.ediv_eq_zero_of_lt (by omega) hxb
        obtain ⟨X, rfl⟩ : ∃ X : Nat, x = (X : Int) := ⟨x.toNat, by omega⟩
        have HX2 := Lib.hid (show X < 2 ^ l.length by have e : ((2 ^ l.length : Nat) : Int) = (2 : Int) ^ l.length := (by push_cast; rfl); rw [eP] at e; omega)
        have hX7 : X < 128 := by omega
        obtain ⟨pc, hpc⟩ : ∃ pc, pc = w1.heap.size := ⟨_, rfl⟩
        obtain ⟨Wa, hWa⟩ : ∃ Wa, Wa = w1.alloc (.cells (List.replicate 30 (Value.bool false)).toArray 77) := ⟨_, rfl⟩
        have RA := Lib.hid (show RowS pc (List.replicate 30 (.bool false)) Wa by rw [hWa, hpc]; exact RowS.new w1 _ _)
        have hza : Wa.heap.size = pc + 1 := by rw [hWa, hpc]; simp
        have GA : w1.grownBy Wa none := by rw [hWa]; exact World.grownBy_alloc _ _ _
        obtain ⟨W2, hW2⟩ : ∃ W2, W2 = Wa.alloc (.cells #[.int .i64 (X : Int)] 3) := ⟨_, rfl⟩
        have R2 := Lib.hid (show RowS pc (rowB (covB n l m [])) W2 by rw [covB_nil, hW2]; exact RA.out.keep (World.grownBy_alloc Wa _ none) (by simp))
        have hcB : W2.cell? ⟨pc + 1, 0, none⟩ = some (.int .i64 (X : Int)) := by rw [hW2, ← hza]; simp [go_sem]
        have hz2 : W2.heap.size = pc + 2 := by rw [hW2]; simp [hza]
        have G2 : w1.grownBy W2 none := grown_trans GA (by rw [hW2]; exact World.grownBy_alloc _ _ _)
        have K : Hid (∀ W, W2.grownBy W (some pc) → Box w.heap.size [.int .i64 n, .slice ad l.length cap, .slice bd m.length cap'] W ∧ Below w.heap.size w W ∧ pc + 2 ≤ W.heap.size) := fun W hg => by
          have hg1 : w1.grownBy W none := G2.andThen hg fun j hj => .inl (by have := Option.some.inj hj; omega)
          exact ⟨A1.out.keep hg1 (by simp), F1.out.grown hg1 F1.out.size (fun k hk => by simp at hk), by have := hg.size; omega⟩
        have hwq : w.heap.size < pc := by omega
        clear GA G2 hxn hxb RA
        have hWa' : w1.alloc (.cells #[.bool false, .bool false, .bool false, .bool false, .bool false, .bool false, .bool false, .bool false, .bool false, .bool false, .bool false, .bool false, .bool false, .bool false, .bool false, .bool false, .bool false, .bool false, .bool false, .bool false, .bool false, .bool false, .bool false, .bool false, .bool false, .bool false, .bool false, .bool false, .bool false, .bool false] 77) = Wa := by rw [hWa]; rfl
        have HWA := Lib.hid hWa'
        have HPC := Lib.hid hpc
        have HZA := Lib.hid hza
        have HW2 := Lib.hid hW2
        clear hWa hWa' hpc hza hW2 hz2
        gi_wp2_with fail
        rw [HWA.out, ← HPC.out]
        refine ⟨trivial, (callsIn_wide.2 (verticesIn_is X _)).mono ?_⟩
        rintro e w6 ⟨rfl, hw6⟩
        obtain rfl : w6 = W2 := by rw [HW2.out]; exact hw6.symm
        rw [HZA.out]
        have hz6 : w6.heap.size = pc + 2 := by rw [HW2.out]; simp [HZA.out]
        clear hw6 x0 x1 x2 cz d0 q0
        gi_wp2_with fail
        refine wpIn_rangeFunc_ownF (w0 := w6) rfl (by omega) (gf := 113) (lb := #[.pointer (some ⟨pc + 1, 0, none⟩)]) rfl trivial (enters_of Try.func113 (by kernel_rfl) rfl)
          (vin_stopsC Fence.wide 4 trivial rfl (by omega) (pc + 1) X w6 (by omega) hcB) keepC_t (keepC_b (by omega)) (Below.refl _ _) (fun _ => rfl)
          (CovI n l m X pc w6) (fun _ _ _ => False) (covI_own (by omega)) (fun _ _ _ _ _ hs _ _ => hs) ⟨R2.out, World.grownBy.refl _ _⟩
          (fun y => { tmps := #[.agg #[.int .i64 n, .slice ad l.length cap, .slice bd m.length cap'], .int .i64 (X : Int), .pointer (some ⟨w.heap.size, 0, none⟩), undef, .bool false, .pointer (some ⟨pc, 0, none⟩), .int .i64 (y.1 : Int), .agg #[.int .i64 n, .slice ad l.length cap, .slice bd m.length cap'], .bool true, .bool false, .bool false, .int .i64 (X : Int), .bool false, .bool false, .bool false, .int .i64 (X : Int), .pointer (some ⟨w.heap.size, 1, none⟩), .slice ad l.length cap, .int .i64 (l.length : Int), .int .i64 0, .bool false, .bool false, .int .i64 (X : Int), .func (.func 113) #[] #[.pointer (some ⟨pc + 1, 0, none⟩)], .int .i64 (y.1 : Int), undef, undef, undef, undef, undef, undef, undef, undef, undef, undef], defers := [] }) ?assign ?body ?done ?stop
        case assign =>
          intro li y W K hK
          gi_wp2
          exact hK
        case body =>
          rintro li pre y W ⟨hR, hB⟩ hlen
          obtain ⟨kA, kB, kZ⟩ := K.out W hB
          obtain ⟨k, hk7, hkb⟩ := y
          have hkl : k < l.length := bit_lt HX2.out ((bitAt_nat X k).1 hkb)
          have HRW := Lib.hid hR
          have HBW := Lib.hid hB
          have HKA := Lib.hid kA
          have HKB := Lib.hid kB
          have HKZ := Lib.hid kZ
          have hmix : Try.prog.follows .mixedOrders = true := by kernel_rfl
          have HDR : Hid (W.grownBy W.drew none) := ⟨rfl, rfl, rfl, Nat.le_refl _, fun _ _ _ => rfl⟩
          have HPZ : Hid (pc < W.drew.heap.size) := (show pc < W.heap.size by omega)
          obtain ⟨p1, hp1⟩ : ∃ p1, p1 = covB n l m (pre.map (·.1)) := ⟨_, rfl⟩
          obtain ⟨p2, hp2⟩ : ∃ p2, p2 = onB n (nth l k) (nth m k).toNat := ⟨_, rfl⟩
          have HPN := Lib.hid (show (fun t => p1 t || p2 t) = covB n l m ((pre ++ [(⟨k, hk7, hkb⟩ : Mem (X : Int))]).map (·.1)) by rw [hp1, hp2, List.map_append]; exact covB_snoc n l m _ k)
          have HP2 := Lib.hid (show (onRow n (nth l k) (nth m k).toNat) = rowB p2 by rw [hp2]; rfl)
          rw [← hp1] at hR
          have HRW := Lib.hid hR
          have hu : Try.prog.underlying 77 = some (.array 30 4) := by kernel_rfl
          have hi : (Try.prog.info? 77).map (·.size) = some 30 := by kernel_rfl
          have HLD : Hid (∀ W' cs, RowS pc cs W' → cs.length = 30 → (loadVar 77 ⟨pc, 0, none⟩).run Try.prog W' = .ok (.agg cs.toArray) W') := fun W' cs h hc => run_loadVar_mid (P := Try.prog) _ pc 0 77 cs (.array 30 4) h.1 hu rfl (by rw [hc]; exact hi)
          have x0 := kA.1 0 _ rfl
          have x1 := kA.1 1 _ rfl
          have x2 := kA.1 2 _ rfl
          have hld : ∀ Y : Since W, (loadVar 77 ⟨pc, 0, none⟩).run Try.prog Y.val = .ok (.agg (rowB p1).toArray) Y.val := fun Y => HLD.out Y.val _ (RowS.on hR Y.prop (show pc < W.heap.size by omega)) (rowB_len _)
          have k0 : ∀ Y : Since W, Y.val.cell? ⟨w.heap.size, 0, none⟩ = some (.int .i64 n) := fun Y => (kA.on Y.prop).1 0 _ rfl
          have k1 : ∀ Y : Since W, Y.val.cell? ⟨w.heap.size, 1, none⟩ = some (.slice ad l.length cap) := fun Y => (kA.on Y.prop).1 1 _ rfl
          have k2 : ∀ Y : Since W, Y.val.cell? ⟨w.heap.size, 2, none⟩ = some (.slice bd m.length cap') := fun Y => (kA.on Y.prop).1 2 _ rfl
          have HPT : Hid (∀ Y : Since W, Calls Try.prog 69 #[.agg #[.int .i64 n, .slice ad l.length cap, .slice bd m.length cap'], .int .i64 (k : Int)] Y.val fun e w' => e = .returned (.agg (rowB p2).toArray) ∧ Below Y.val.heap.size Y.val w') := fun Y => by
            have := pointsOf_is n _ _ l m k Y.val ((HI.out.on kB).on Y.prop) ((HJ.out.on kB).on Y.prop) HP.out hkl
            rw [HP2.out] at this
            exact this
          have HOR : Hid (∀ Y : Since W, Calls Try.prog 68 #[.agg (rowB p1).toArray, .agg (rowB p2).toArray] Y.val fun e w' => e = .returned (.agg (rowB fun t => p1 t || p2 t).toArray) ∧ Below Y.val.heap.size Y.val w') := fun Y => or_is p1 p2 _
          have HBW := Lib.hid hB
          clear hR hB hlen kA kB kZ hp1 hp2 hu hi x0 x1 x2
          gi_wp2
          refine wpIn_region_since_tail 5 hmix (by kernel_rfl) (by kernel_rfl) ?_
          simp only [List.take_succ_cons, List.take_zero, List.drop_succ_cons, List.drop_zero]
          refine wpQuiet_load_row 77 (.tmp 5) ⟨pc, 0, none⟩ (.agg (rowB p1).toArray) rfl rfl rfl (by rintro _ ⟨Y, rfl⟩; exact hld Y) ?_
          simp only [Act.put, List.setIfInBounds_toArray, List.set_cons_succ, List.set_cons_zero]
          repeat (go_big_quiet_step (first | exact since_call (HPT.out _) | exact since_call (HOR.out _)))
          refine wpQuiet_nil ?_
          intro Y
          obtain ⟨w8, hw8⟩ : ∃ w8, w8 = Y.val := ⟨_, rfl⟩
          have hb8 : Below W.heap.size W w8 := by rw [hw8]; exact Y.prop
          rw [← hw8]
          have HR8 := Lib.hid (RowS.on HRW.out hb8 (show pc < W.heap.size by have := HKZ.out; omega))
          have HB8 := Lib.hid hb8
          obtain ⟨RB, hRB⟩ : ∃ RB, RB = rowB (fun t => p1 t || p2 t) := ⟨_, rfl⟩
          have lR : RB.length = (rowB p1).length := by rw [hRB, rowB_len, rowB_len]
          have HRL := Lib.hid (HR8.out.store lR)
          have HRB := Lib.hid hRB
          have hsc := HR8.out.storing lR (by rw [hRB]; exact rowB_mem _)
          have hone : RB.toArray.all (·.oneCell') = true := by rw [hRB]; exact rowB_one _
          have hlen8 : RB.length = 30 := by rw [hRB]; exact rowB_len _
          rw [← hRB]
          clear hRB hw8 hb8 lR hld k0 k1 k2
          gi_wp2
          refine ⟨(KeepsOthers.of_grownBy (below_grown HB8.out) (by simp)).trans (keeps_setCells _ _ _ _), ?_, ?_, ?_⟩
          · exact (World.cell?_of_block (a := ⟨pc + 1, 0, none⟩) ((grown_setCells pc RB 0 w8).block (pc + 1) (by have := HB8.out.size; have := HKZ.out; omega) (by simp))).trans (HB8.out.cell (p := ⟨pc + 1, 0, none⟩) (by show pc + 1 < W.heap.size; have := HKZ.out; omega))
          · rw [← HPN.out, ← HRB.out]; exact HRL.out
          · exact grown_trans (grown_trans HBW.out ((below_grown HB8.out).but (some pc))) (grown_setCells _ _ _ _)
        case done =>
          rintro D ys W hD hys ⟨hR, hB⟩ hK
          obtain ⟨kA, kB, kZ⟩ := K.out W hB
          rw [hys, memU_nat] at hR
          have hn3 := HP.out.1.1
          have hn30 := HP.out.1.2
          obtain ⟨p1, hp1⟩ : ∃ p1, p1 = covB n l m (memN X) := ⟨_, rfl⟩
          obtain ⟨p2, hp2⟩ : ∃ p2, p2 = wholeB n.toNat := ⟨_, rfl⟩
          have hcv := cov_is HP.out HX2.out
          rw [← hp1, ← hp2] at hcv
          rw [← hp1] at hR
          have hu : Try.prog.underlying 77 = some (.array 30 4) := by kernel_rfl
          have hi : (Try.prog.info? 77).map (·.size) = some 30 := by kernel_rfl
          have hld : ∀ Y : Since W, (loadVar 77 ⟨pc, 0, none⟩).run Try.prog Y.val = .ok (.agg (rowB p1).toArray) Y.val := fun Y => run_loadVar_mid (P := Try.prog) _ pc 0 77 _ (.array 30 4) (RowS.on hR Y.prop (show pc < W.heap.size by omega)).1 hu rfl (by rw [rowB_len]; exact hi)
          have k0 : ∀ Y : Since W, Y.val.cell? ⟨w.heap.size, 0, none⟩ = some (.int .i64 n) := fun Y => (kA.on Y.prop).1 0 _ rfl
          have HWC : Hid (∀ Y : Since W, Calls Try.prog 70 #[.int .i64 n] Y.val fun e w' => e = .returned (.agg (rowB p2).toArray) ∧ Below Y.val.heap.size Y.val w') := fun Y => by
            have h9 := whole_is n.toNat (by omega) Y.val
            have e9 : (n.toNat : Int) = n := by omega
            rw [e9, ← hp2] at h9
            exact h9
          obtain ⟨b, hb⟩ : ∃ b, b = (List.range 30).all fun x => p1 x == p2 x := ⟨_, rfl⟩
          rw [← hb] at hcv
          have heq : ∀ Y : Since W, (Op.equalIn 10000 77 (.agg (rowB p1).toArray) (.agg (rowB p2).toArray)).run Try.prog Y.val = .ok b Y.val := fun Y => by rw [hb]; exact eq_row p1 p2 Y.val
          have HCV := Lib.hid hcv
          have HKB := Lib.hid kB
          have HK := Lib.hid hK
          clear hR hB hu hi hp1 hp2 hb hcv kA kB hys hK
          gi_wp2
          refine wpIn_region_since rfl (by kernel_rfl) (by kernel_rfl) ?_
          refine wpQuietIn_load_row 77 (.tmp 5) ⟨pc, 0, none⟩ (.agg (rowB p1).toArray) rfl rfl rfl (by rintro _ ⟨Y, rfl⟩; exact hld Y) ?_
          simp only [Act.put, List.setIfInBounds_toArray, List.set_cons_succ, List.set_cons_zero]
          gi_big_quiet_step (fail)
          gi_big_quiet_step (fail)
          refine Go.BigFrame.wpQuietIn_want (fun _ _ _ _ => trivial) (by simp [Region.wanted]) ?_
          intro Kq hKq
          gi_big_quiet_op
          gi_big_quiet_call (exact since_callIn (callsIn_wide.2 (HWC.out _)))
          repeat (gi_big_quiet_step (fail))
          refine wpQuietIn_nil ?_
          intro Y
          obtain ⟨w9, hw9⟩ : ∃ w9, w9 = Y.val := ⟨_, rfl⟩
          have hb9 : Below W.heap.size W w9 := by rw [hw9]; exact Y.prop
          rw [← hw9]
          have HK9 := Lib.hid ((hb9.block D (Array.getElem?_eq_some_iff.1 HK.out).1).trans HK.out)
          have HB9 := Lib.hid (HKB.out.trans (hb9.mono HKB.out.size))
          clear hw9 hb9 hld k0 heq
          gi_wp2
          refine ⟨by simp, .inl ⟨_, _, rfl, run_takeDeferred HK9.out, ?_⟩⟩
          exact ⟨_, results_tmp rfl _ _ _, b, rfl, HCV.out, HB9.out.trans (belowK_b (w := w) (Nat.le_refl _) w9 D _ _ (by omega) HK9.out rfl rfl)⟩
        case stop =>
          rintro D c pre W hD hpre h hK
          exact h.elim
      · have q0 : (x / P != 0) = true := by
          rw [bne_iff_ne]
          intro h0
          have h1 := Int.emod_lt_of_pos x (show 0 < P by omega)
          have h2 := Int.emod_add_mul_ediv x P
          rw [h0] at h2
          omega
        have HN := Lib.hid (show ¬ CovP n l m x from fun h => by have := h.2.1.2; rw [HPE.out] at this; omega)
        clear hxn hxb
        gi_wp2
        refine ⟨_, by simp [results, Try.f18, go_sem]; rfl, ?_⟩
        exact SaysB.no HN.out F1.out

end Go.Proofs.Ytgfndgjabhabjaa
