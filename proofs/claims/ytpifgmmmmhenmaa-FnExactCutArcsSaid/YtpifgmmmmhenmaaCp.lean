/- spec.CutArcs. -/
import Derived.Test.YtpifgmmmmhenmaaCk
import Derived.Test.YtpifgmmmmhenmaaY18
import Derived.Deep.AppendLies
namespace Go.Proofs.Ytpifgmmmmhenmaa
set_option linter.unusedVariables false
set_option linter.unusedSimpArgs false
open Go.RowKit

theorem wpList_append_int_at {P : Program} {Q : Exit → Act → World → Prop} {ops : Array Oper} {rest : List Oper} {o : Oper} {a : Act} {w : World} (hgd : o.guard = none) (s x : Operand) (t : TypeId)
    (ho : o.op = .call { callee := .builtin .append, args := #[s, x], argTypes := #[t, t] }) (B : Nat) (i : TypeInfo) (ht : P.underlying t = some (.slice 3)) (hi : P.info? 3 = some i)
    (hz : i.zero = some (.int .i64 0)) (hsize : i.size = 1) (hby : i.bytes = 8) (v : Value) (m : List Int) (hs : a.eval s = v) (hown : OwnI B w v m) (y : Int) (y0 : -9223372036854775808 ≤ y) (y1 : y ≤ 9223372036854775807) (hx : a.eval x = .slice (some ⟨w.heap.size, 0, none⟩) 1 1)
    (hlen : m.length + 1 ≤ 1000000000) (hB : B ≤ w.heap.size)
    (h : ∀ v' w', OwnI B w' v' (m ++ [y]) → (w.alloc (.cells #[.int .i64 y] 3)).grownBy w' v.ownBlock → (v'.ownBlock = v.ownBlock ∨ v'.ownBlock = some (w.heap.size + 1)) → wpList P ops Q rest (a.put o.dst v') w') : wpList P ops Q (o :: rest) a (w.alloc (.cells #[.int .i64 y] 3)) := by
  refine wpList_append_own_at _ hgd s x t ho B 3 i (.int .i64 0) 1 8 ht hi hz hsize hby rfl (by decide) v m.length (iv m) hs (hown.2.alloc _) ⟨w.heap.size, 0, none⟩ 1 1 [.int .i64 y] hx rfl ?_ (fun u hu => by simp at hu; subst hu; rfl) (by unfold maxLen; omega) (by omega) (by simp; omega) fun v' w' h2 h3 h4 h5 => h v' w' ⟨inI64_append hown.1 (inI64_one y0 y1), ?_⟩ h3 (by simpa using h5)
  · intro j u hj
    match j, hj with
    | 0, hj => simp at hj; subst hj; simp [Addr.add]
  · rw [iv_snoc] at h2
    simpa using h2

theorem apart_next {v0 v0' v1 : Value} {s : Nat} (h : ∀ b, v0.ownBlock = some b → v1.ownBlock ≠ some b) (hat : v0'.ownBlock = v0.ownBlock ∨ v0'.ownBlock = some (s + 1)) (hs : ∀ b, v1.ownBlock = some b → b < s) : ∀ b, v0'.ownBlock = some b → v1.ownBlock ≠ some b := fun b h1 h2 => by
  rcases hat with h3 | h3
  · rw [h3] at h1; exact h b h1 h2
  · rw [h3] at h1
    have := hs b h2
    have := Option.some.inj h1
    omega

theorem kept_apart {v0 v1 : Value} (h : ∀ b, v0.ownBlock = some b → v1.ownBlock ≠ some b) : v1.ownBlock = none ∨ v1.ownBlock ≠ v0.ownBlock := by
  cases h1 : v1.ownBlock with
  | none => exact .inl rfl
  | some b => exact .inr fun e => h b e.symm h1

/-- append(s, x) of one int out of a block of its own, as one step of a region that draws its order; where the new slice lies is told. -/
theorem step_append_int1_at {P : Program} {K : Act → World → Prop} {E : Prop} {Q : Exit → Act → World → Prop} {ops : Array Oper} {o : Oper} {a : Act} {W : World} (hgd : o.guard = none) (s x : Operand) (t : TypeId)
    (ho : o.op = .call { callee := .builtin .append, args := #[s, x], argTypes := #[t, t] }) (B : Nat) (i : TypeInfo) (ht : P.underlying t = some (.slice 3)) (hi : P.info? 3 = some i)
    (hz : i.zero = some (.int .i64 0)) (hsize : i.size = 1) (hby : i.bytes = 8) (v : Value) (m : List Int) (hs : a.eval s = v) (hown : OwnI B W v m) (g : Nat) (y : Int) (y0 : -9223372036854775808 ≤ y) (y1 : y ≤ 9223372036854775807) (hx : a.eval x = .slice (some ⟨g, 0, none⟩) 1 1)
    (hblk : W.heap[g]? = some (.cells #[.int .i64 y] 3 (0, 0))) (hlen : m.length + 1 ≤ 1000000000) (hB : B ≤ W.heap.size)
    (h : ∀ g' cap w', OwnI B w' (.slice (some ⟨g', 0, none⟩) (m ++ [y]).length cap) (m ++ [y]) → W.grownBy w' v.ownBlock → (v.ownBlock = some g' ∨ g' = W.heap.size) → K (a.put o.dst (.slice (some ⟨g', 0, none⟩) (m ++ [y]).length cap)) w') :
    if Region.wanted o (yielded ops a.tmps) = true then Oper.wp P o a W K Q else E := by
  refine step_append_lies W hgd s x t ho B 3 i (.int .i64 0) 1 8 ht hi hz hsize hby rfl (by decide) v m.length (iv m) hs hown.2 ⟨g, 0, none⟩ 1 1 [.int .i64 y] hx rfl ?_ (fun u hu => by simp at hu; subst hu; rfl) (by decide) (by unfold maxLen; omega) (by omega) hB _ rfl fun g' cap w' h1 h2 h3 _ => ?_
  · intro j u hj
    match j, hj with
    | 0, hj => simp at hj; subst hj; simp [Addr.add, World.cell?, hblk]
  · have := h g' cap w' ⟨inI64_append hown.1 (inI64_one y0 y1), by rw [iv_snoc] at h1; simpa using h1⟩ h2 h3
    simpa using this

theorem apart_sym {v0 v1 : Value} (h : ∀ b, v0.ownBlock = some b → v1.ownBlock ≠ some b) : ∀ b, v1.ownBlock = some b → v0.ownBlock ≠ some b := fun b h1 h2 => h b h2 h1

theorem apart_lies {v0 v1 v1' : Value} {g s : Nat} (h : ∀ b, v0.ownBlock = some b → v1.ownBlock ≠ some b) (hv : v1'.ownBlock = some g) (hat : v1.ownBlock = some g ∨ g = s) (hs : ∀ b, v0.ownBlock = some b → b < s) : ∀ b, v0.ownBlock = some b → v1'.ownBlock ≠ some b := fun b h1 h2 => by
  rw [hv] at h2
  obtain rfl := Option.some.inj h2
  rcases hat with h3 | h3
  · exact h _ h1 h3
  · have := hs _ h1; omega

def firstN (f : Nat → Int) (j : Nat) : List Int := (List.range j).map f

theorem firstN_succ (f : Nat → Int) (j : Nat) : firstN f (j + 1) = firstN f j ++ [f j] := by simp [firstN, List.range_succ]

theorem firstN_length (f : Nat → Int) (j : Nat) : (firstN f j).length = j := by simp [firstN]

set_option maxHeartbeats 4000000 in
set_option maxRecDepth 100000 in
theorem specCut (n : Int) (v u : Value) (l m : List Int) (x : Int) (w : World) (h : Ints w v l) (g : Ints w u m) (hl : l.length ≤ 1048576) (hm : m.length ≤ 1048576) :
    Calls Try.prog 34 #[.agg #[.int .i64 n, v, u], .int .i64 x] w (GetsII2 w.heap.size w (cutA n l m x) (cutB n l m x) (decide (CutP n l m x))) := by
  obtain ⟨ad, cap, rfl, -, -⟩ := h.form
  obtain ⟨bd, cap', rfl, -, -⟩ := g.form
  have HI := Lib.hid h
  have HJ := Lib.hid g
  obtain ⟨w0, hw0⟩ : ∃ w0, w0 = (w.alloc (.cells #[.int .i64 n, .slice ad l.length cap, .slice bd m.length cap'] 55)).alloc (.cells #[.slice none 0 0, .slice none 0 0] 52) := ⟨_, rfl⟩
  have F0 := Lib.hid (show Below w.heap.size w w0 by rw [hw0]; exact ((Below.refl _ w).alloc (Nat.le_refl _) _).alloc (by simp) _)
  have A0 := Lib.hid (show Box w.heap.size [.int .i64 n, .slice ad l.length cap, .slice bd m.length cap'] w0 by rw [hw0]; exact (Box.new w _ _).keep (grown_alloc _ _ none) (by simp))
  have C0 := Lib.hid (show Box (w.heap.size + 1) [.slice none 0 0, .slice none 0 0] w0 by rw [hw0]; have h := Box.new (w.alloc (.cells #[.int .i64 n, .slice ad l.length cap, .slice bd m.length cap'] 55)) 52 [.slice none 0 0, .slice none 0 0]; simpa using h)
  have HX : Hid (∀ W, Below w0.heap.size w0 W → W.cell? ⟨w.heap.size, 0, none⟩ = some (.int .i64 n) ∧ W.cell? ⟨w.heap.size, 1, none⟩ = some (.slice ad l.length cap) ∧ W.cell? ⟨w.heap.size, 2, none⟩ = some (.slice bd m.length cap') ∧ Box (w.heap.size + 1) [.slice none 0 0, .slice none 0 0] W ∧ Below w.heap.size w W ∧ w.heap.size + 2 ≤ W.heap.size) := fun W hW => ⟨(A0.out.on hW).1 0 _ rfl, (A0.out.on hW).1 1 _ rfl, (A0.out.on hW).1 2 _ rfl, C0.out.on hW, F0.out.trans (hW.mono F0.out.size), by have := C0.out.2.2; have := hW.size; omega⟩
  clear h g
  obtain ⟨i0, hi, hz0, hz1, hz2⟩ := info_parts infoInt
  go_enter Try.func34, Try.ntmps34
  go_wp2_with fail
  rw [← hw0]
  clear hw0
  refine (specIsArcs n _ _ l m _ (HI.out.on F0.out) (HJ.out.on F0.out) hl hm).mono ?_
  rintro e w1 ⟨r, rfl, hr, hb⟩
  have H1 := Lib.hid hb
  clear hb
  obtain ⟨x0, x1, x2, xb, xB, xz⟩ := HX.out _ H1.out
  have r0 := xb.1 0 _ rfl
  have r1 := xb.1 1 _ rfl
  have r2 := xb.2.1 0
  have r3 := xb.2.1 1
  have HEND : Hid (∀ W, Below w0.heap.size w0 W → ¬ CutP n l m x → GetsII2 w.heap.size w (cutA n l m x) (cutB n l m x) (decide (CutP n l m x)) (.returned (.tuple #[.agg #[.slice none 0 0, .slice none 0 0], .bool false])) ((W.setCell ⟨w.heap.size + 1, 0, none⟩ (.slice none 0 0)).setCell ⟨w.heap.size + 1, 1, none⟩ (.slice none 0 0))) := fun W hW hn => by
    obtain ⟨e1, e2, e3⟩ := cut_no hn
    rw [e1, e2, e3]
    exact gets_none (((HX.out W hW).2.2.2.2.1.setCell (p := ⟨w.heap.size + 1, 0, none⟩) (by show w.heap.size ≤ w.heap.size + 1; omega) _).setCell (p := ⟨w.heap.size + 1, 1, none⟩) (by show w.heap.size ≤ w.heap.size + 1; omega) _)
  have HBX : Hid (∀ W, Below w0.heap.size w0 W → ((W.setCell ⟨w.heap.size + 1, 0, none⟩ (.slice none 0 0)).setCell ⟨w.heap.size + 1, 1, none⟩ (.slice none 0 0)).cell? ⟨w.heap.size + 1, 0, none⟩ = some (.slice none 0 0) ∧ ((W.setCell ⟨w.heap.size + 1, 0, none⟩ (.slice none 0 0)).setCell ⟨w.heap.size + 1, 1, none⟩ (.slice none 0 0)).cell? ⟨w.heap.size + 1, 1, none⟩ = some (.slice none 0 0)) := fun W hW => by
    have h1 := ((HX.out W hW).2.2.2.1.set 0 (.slice none 0 0)).set 1 (.slice none 0 0)
    exact ⟨h1.1 0 _ rfl, h1.1 1 _ rfl⟩
  clear xb xB
  cases r with
  | false =>
    have HN := Lib.hid (HEND.out w1 H1.out (fun h => absurd (hr.2 h.1.1) (by decide)))
    obtain ⟨b0, b1⟩ := HBX.out w1 H1.out
    clear hr
    go_wp2
    refine bodyPost_ret (v := .tuple #[.agg #[.slice none 0 0, .slice none 0 0], .bool false]) (by simp [results, Try.f34, go_sem, b0, b1]) rfl ?_
    exact HN.out
  | true =>
    have HAP := Lib.hid (hr.1 rfl)
    clear hr
    obtain ⟨s0, s1⟩ := HAP.out.1
    have qn : IntKind.i64.wrap (n - 1) = n - 1 := IntWalk.i64_in _ (by omega) |>.trans (by omega)
    by_cases hx : 0 ≤ x ∧ x < n
    · have HPT := Lib.hid (show PtP n l m x from ⟨HAP.out, hx.1, hx.2⟩)
      go_wp2_with fail
      refine (l1In_yes' x 0 (n - 1) _ (by omega) (by omega)).mono ?_
      rintro e w2 ⟨rfl, rfl⟩
      go_wp2_with fail
      refine (specArcsAt n _ _ l m x _ (HI.out.on (HX.out _ H1.out).2.2.2.2.1) (HJ.out.on (HX.out _ H1.out).2.2.2.2.1) hl hm).mono ?_
      rintro e w2 ⟨rfl, hb⟩
      have H2 := Lib.hid (H1.out.trans (hb.mono H1.out.size))
      clear hb x0 x1 x2 r0 r1 r2 r3 xz
      obtain ⟨x0, x1, x2, xb, xB, xz⟩ := HX.out _ H2.out
      have r0 := xb.1 0 _ rfl
      have r1 := xb.1 1 _ rfl
      have r2 := xb.2.1 0
      have r3 := xb.2.1 1
      have HZ := Lib.hid (arcR_zero HPT.out)
      obtain ⟨R, hR⟩ : ∃ R, R = arcR n l m x := ⟨_, rfl⟩
      rw [← hR] at HZ ⊢
      clear hR xb xB
      by_cases hR0 : R = 0
      · have q0 : (R != 0) = false := by simp [hR0]
        have HC := Lib.hid (HZ.out.1 hR0)
        have hN1 := HPT.out.1.2.1.1
        have hN7 := HPT.out.1.2.1.2
        clear r0 r1 r2 r3 hR0
        obtain ⟨k, hk⟩ : ∃ k, k = w2.heap.size := ⟨_, rfl⟩
        obtain ⟨w3, hw3⟩ : ∃ w3, w3 = w2.alloc (.cells #[.slice none 0 0, .slice none 0 0] 52) := ⟨_, rfl⟩
        have HK3 := Lib.hid (show Box k [.slice none 0 0, .slice none 0 0] w3 by rw [hw3, hk]; exact Box.new w2 _ [.slice none 0 0, .slice none 0 0])
        have HB3 := Lib.hid (show Below w2.heap.size w2 w3 by rw [hw3]; exact (Below.refl _ _).alloc (Nat.le_refl _) _)
        have hz3 : w3.heap.size = k + 1 := by rw [hw3, hk]; simp
        have HKW := Lib.hid hk
        have hkz : w.heap.size + 2 ≤ k := by omega
        go_wp2
        rw [← hw3, ← hk]
        clear hw3 hk x0 x1 x2
        have HX3 : Hid (∀ W, Below w3.heap.size w3 W → W.cell? ⟨w.heap.size, 0, none⟩ = some (.int .i64 n) ∧ W.cell? ⟨w.heap.size, 1, none⟩ = some (.slice ad l.length cap) ∧ W.cell? ⟨w.heap.size, 2, none⟩ = some (.slice bd m.length cap') ∧ Box (w.heap.size + 1) [.slice none 0 0, .slice none 0 0] W ∧ Below w.heap.size w W ∧ w.heap.size + 2 ≤ W.heap.size) := fun W hW => HX.out W (H2.out.trans ((HB3.out.trans (hW.mono HB3.out.size)).mono H2.out.size))
        have HX4 : Hid (∀ W, Below k w3 W → W.cell? ⟨w.heap.size, 0, none⟩ = some (.int .i64 n) ∧ W.cell? ⟨w.heap.size, 1, none⟩ = some (.slice ad l.length cap) ∧ W.cell? ⟨w.heap.size, 2, none⟩ = some (.slice bd m.length cap') ∧ Box (w.heap.size + 1) [.slice none 0 0, .slice none 0 0] W ∧ Below w.heap.size w W ∧ w.heap.size + 2 ≤ W.heap.size) := fun W hW => HX.out W (H2.out.trans ((HB3.out.trans (by rw [← HKW.out]; exact hW)).mono H2.out.size))
        have HU0 := Lib.hid (show OwnI (k + 1) w3 (.slice none 0 0) (firstN (cutJ n l x) 0) from ⟨inI64_nil, World.ownsRow_nil _ _ _ _⟩)
        have HU1 := Lib.hid (show OwnI (k + 1) w3 (.slice none 0 0) (firstN (cutK n l m x) 0) from ⟨inI64_nil, World.ownsRow_nil _ _ _ _⟩)
        go_loopw [7, 8] (fun xi _ wr => ∃ (j : Nat) (v0 v1 : Value), j ≤ l.length ∧ xi = .int .i64 j ∧ Hid (OwnI (k + 1) wr v0 (firstN (cutJ n l x) j)) ∧ Hid (OwnI (k + 1) wr v1 (firstN (cutK n l m x) j)) ∧ Hid (∀ b, v0.ownBlock = some b → v1.ownBlock ≠ some b) ∧ Hid (Box k [v0, v1] wr) ∧ Hid (Below k w3 wr)) (fun xi _ _ => l.length - (intOf xi).toNat)
        case atStart => exact ⟨0, _, _, by omega, rfl, HU0, HU1, Lib.hid (fun b h => by simp [Value.ownBlock] at h), HK3, Lib.hid (Below.refl _ _)⟩
        case round =>
          clear HU0 HU1 HK3
          obtain ⟨j, v0, v1, hj, rfl, HU0, HU1, HAP0, HK0, HBW⟩ := hrel
          obtain ⟨a0, c0, rfl, -, -⟩ := HU0.out.ints.form
          obtain ⟨a1, c1, rfl, -, -⟩ := HU1.out.ints.form
          obtain ⟨x0, x1, x2, xb, xB, xz9⟩ := HX4.out wr HBW.out
          have hzr : k + 1 ≤ wr.heap.size := by have := HBW.out.size; omega
          by_cases hlt : j < l.length
          · have d0 : decide ((j : Int) < (l.length : Int)) = true := decide_eq_true (by omega)
            have d0' : decide (j < l.length) = true := decide_eq_true hlt
            obtain ⟨⟨m0, m1⟩, ⟨n0, n1⟩, m2⟩ := cut_bd HPT.out hlt
            obtain ⟨t0, t1, t2, t3⟩ := HPT.out.1.2.2.2 j hlt
            obtain ⟨p0, p1⟩ := HPT.out.2
            have hml := HPT.out.1.2.2.1
            obtain ⟨bl, offl, cl, hv, _, hml1, hbl, hcl⟩ := HI.out.pos (by omega)
            simp only [Value.slice.injEq] at hv
            obtain ⟨rfl, -, rfl⟩ := hv
            obtain ⟨bm, offm, cm, hv, _, hml2, hbm, hcm⟩ := HJ.out.pos (by omega)
            simp only [Value.slice.injEq] at hv
            obtain ⟨rfl, -, rfl⟩ := hv
            unfold maxLen at hml1 hml2
            have f1 := (xB.cell (p := ⟨bl, offl + j, none⟩) hbl).trans (hcl j hlt)
            have hjm : j < m.length := by omega
            have hF2 : ∀ W, Below w.heap.size w W → W.cell? ⟨bm, offm + j, none⟩ = some (.int .i64 (nth m j)) := fun W hW => (hW.cell (p := ⟨bm, offm + j, none⟩) hbm).trans (hcm j hjm)
            obtain ⟨T, hT⟩ : ∃ T, T = nth l j := ⟨_, rfl⟩
            obtain ⟨Y, hY⟩ : ∃ Y, Y = nth m j := ⟨_, rfl⟩
            obtain ⟨M, hM⟩ : ∃ M, M = cutJ n l x j := ⟨_, rfl⟩
            obtain ⟨Q, hQ⟩ : ∃ Q, Q = cutK n l m x j := ⟨_, rfl⟩
            have hQM : Q = M + Y - 1 := by rw [hQ, hM, hY]; rfl
            rw [← hT] at f1 t0 t1 m2
            rw [← hY] at t2 t3 hF2
            rw [← hM] at m0 m1 m2
            rw [← hQ] at n0 n1
            obtain ⟨P1, hP1⟩ : ∃ z : Int, z = T - x := ⟨_, rfl⟩
            have e1 : IntKind.i64.wrap (T - x) = P1 := (IntWalk.i64_in _ (by omega)).trans hP1.symm
            obtain ⟨P2, hP2⟩ : ∃ z : Int, z = P1 + n := ⟨_, rfl⟩
            have e2 : IntKind.i64.wrap (P1 + n) = P2 := (IntWalk.i64_in _ (by omega)).trans hP2.symm
            have m3 : Int.tmod P2 n = M := by rw [hP2, hP1]; exact m2
            have m4 : P2 % n = M := by rw [← m3, Int.tmod_eq_emod_of_nonneg (by omega)]
            have e3 : IntKind.i64.wrap M = M := IntWalk.i64_in _ (by omega)
            have z0 : (n == 0) = false := by rw [beq_eq_false_iff_ne]; omega
            have hn0 : n ≠ 0 := by omega
            have hn0' : ¬ n = 0 := by omega
            have e4 : IntKind.i64.wrap (M + Y) = M + Y := IntWalk.i64_in _ (by omega)
            have e5 : IntKind.i64.wrap (M + Y - 1) = M + Y - 1 := IntWalk.i64_in _ (by omega)
            have HS0 := Lib.hid (show firstN (cutJ n l x) j ++ [M] = firstN (cutJ n l x) (j + 1) by rw [firstN_succ, hM])
            have HS1 := Lib.hid (show firstN (cutK n l m x) j ++ [M + Y - 1] = firstN (cutK n l m x) (j + 1) by rw [firstN_succ, ← hQ, hQM])
            have HL0 := Lib.hid (firstN_length (cutJ n l x) j)
            have HL1 := Lib.hid (firstN_length (cutK n l m x) j)
            have k0 := HK0.out.1 0 _ rfl
            have k1 := HK0.out.1 1 _ rfl
            have k2 := HK0.out.2.1 0
            have k3 := HK0.out.2.1 1
            have hkr := HK0.out.2.2
            clear hcl hcm hT hY hM hQ hP1 hP2 xb m2 hml hQM n0 n1
            go_wp2
            go_quiet (fail)
            obtain ⟨wn, hwn⟩ : ∃ wn, wn = wr.drewN nq := ⟨_, rfl⟩
            have hbn : Below wr.heap.size wr wn := by rw [hwn]; exact below_drewN (Below.refl _ _) _
            rw [← hwn]
            clear hwn x0 x1 x2 k0 k1 k2 k3 f1
            have HUn0 := Lib.hid (HU0.out.on hbn)
            have HUn1 := Lib.hid (HU1.out.on hbn)
            have HKn := Lib.hid (HK0.out.on hbn)
            have HBn := Lib.hid (HBW.out.trans (hbn.mono (by omega)))
            have hzn : k + 1 ≤ wn.heap.size := Nat.le_trans hzr hbn.size
            have k0 := HKn.out.1 0 _ rfl
            have k1 := HKn.out.1 1 _ rfl
            have k2 := HKn.out.2.1 0
            have k3 := HKn.out.2.1 1
            have hkn := HKn.out.2.2
            clear hbn hkr
            go_wp2_with (at_builtin; refine wpList_append_int_at rfl (.tmp 49) (.tmp 51) 27 rfl (k + 1) i0 Try.underlying27 hi hz0 hz1 hz2 _ (firstN (cutJ n l x) j) rfl HUn0.out M (by omega) (by omega) rfl (by rw [HL0.out]; omega) hzn ?_)
            intro v0' w5 ho hg hat
            have HW5 := Lib.hid (show OwnI (k + 1) w5 v0' (firstN (cutJ n l x) (j + 1)) by rw [← HS0.out]; exact ho)
            obtain ⟨a9, c9, rfl, -, -⟩ := HW5.out.ints.form
            have HV5 := Lib.hid ((HUn1.out.alloc (.cells #[.int .i64 M] 3)).kept hg (kept_apart HAP0.out))
            have HA5 := Lib.hid (apart_next (s := wn.heap.size) HAP0.out hat (fun b hb => (HUn1.out.lt b hb).2))
            have HK5 := Lib.hid ((HKn.out.keep (grown_alloc wn (.cells #[.int .i64 M] 3) none) (by simp)).keep hg (fun e => by have := (HUn0.out.lt k e).1; omega))
            have HB5 := Lib.hid (show Below k w3 w5 from (HBn.out.alloc (by omega) (.cells #[.int .i64 M] 3)).grown hg (by simp; omega) (fun b hb => by have := (HUn0.out.lt b hb).1; omega))
            clear ho hg hat k0 k1 k2 k3 hkn
            have k0 := HK5.out.1 0 _ rfl
            have k1 := HK5.out.1 1 _ rfl
            have k2 := HK5.out.2.1 0
            have k3 := HK5.out.2.1 1
            have hk5 := HK5.out.2.2
            obtain ⟨w6, hw6⟩ : ∃ w6, w6 = w5.setCell ⟨k, 0, none⟩ (.slice a9 (firstN (cutJ n l x) (j + 1)).length c9) := ⟨_, rfl⟩
            have HW6 := Lib.hid (show OwnI (k + 1) w6 (.slice a9 (firstN (cutJ n l x) (j + 1)).length c9) (firstN (cutJ n l x) (j + 1)) by rw [hw6]; exact HW5.out.setBelow (by show k < k + 1; omega) _)
            have HV6 := Lib.hid (show OwnI (k + 1) w6 (.slice a1 (firstN (cutK n l m x) j).length c1) (firstN (cutK n l m x) j) by rw [hw6]; exact HV5.out.setBelow (by show k < k + 1; omega) _)
            have HK6 := Lib.hid (show Box k [.slice a9 (firstN (cutJ n l x) (j + 1)).length c9, .slice a1 (firstN (cutK n l m x) j).length c1] w6 by rw [hw6]; exact HK5.out.set 0 _)
            have HB6 := Lib.hid (show Below k w3 w6 by rw [hw6]; exact HB5.out.setCell (p := ⟨k, 0, none⟩) (Nat.le_refl _) _)
            go_wp2
            rw [← hw6]
            clear hw6 k0 k1 k2 k3 hk5
            obtain ⟨x0, x1, x2, -, xB6, -⟩ := HX4.out w6 HB6.out
            have f2 := hF2 w6 xB6
            have k0 := HK6.out.1 0 _ rfl
            have k1 := HK6.out.1 1 _ rfl
            have k2 := HK6.out.2.1 0
            have k3 := HK6.out.2.1 1
            have hk6 := HK6.out.2.2
            have hz6 : k + 1 ≤ w6.heap.size := by have := HB6.out.size; omega
            clear xB6
            have HV6n := Lib.hid (fun (W : World) (hW : Below w6.heap.size w6 W) => HV6.out.on hW)
            go_region_law (refine step_append_int1_at rfl (.tmp 55) (.tmp 64) 27 rfl (k + 1) i0 Try.underlying27 hi hz0 hz1 hz2 (.slice a1 (firstN (cutK n l m x) j).length c1) _ rfl (HV6.out.alloc _) w6.heap.size (M + Y - 1) (by omega) (by omega) rfl (by first | exact heap_alloc_new w6 _ | (show (w6.alloc _).heap[w6.heap.size]? = _; exact heap_alloc_new w6 _)) (by rw [HL1.out]; omega) (by simp; omega) ?_; intro g' cap' w7 ho hg hat; have hgr : w6.grownBy w7 (Value.slice a1 (firstN (cutK n l m x) j).length c1).ownBlock := grown_trans (grown_alloc w6 (.cells #[.int .i64 (M + Y - 1)] 3) _) ⟨hg.os, hg.tape, hg.output, hg.size, hg.block⟩; rw [HS1.out] at ho ⊢; have hat' : (Value.slice a1 (firstN (cutK n l m x) j).length c1).ownBlock = some g' ∨ g' = w6.heap.size + 1 := (by simpa using hat); have HO7 := Lib.hid ho; have HG7 := Lib.hid hgr; have HT7 := Lib.hid hat'; clear ho hg hgr hat hat'; have HK7 := Lib.hid (HK6.out.keep HG7.out (fun e => (by have := (HV6.out.lt k e).1; omega))); have k0 := HK7.out.1 0 _ rfl; have k1 := HK7.out.1 1 _ rfl; have k2 := HK7.out.2.1 0; have k3 := HK7.out.2.1 1; have hk7 := HK7.out.2.2)
            all_goals
              go_wp2
              go_roundw
              case rel =>
                refine ⟨j + 1, _, _, by omega, by go_num, Lib.hid ((HW6.out.kept HG7.out (kept_apart (apart_sym HA5.out))).setBelow (a := ⟨k, 1, none⟩) (by show k < k + 1; omega) _), Lib.hid (HO7.out.setBelow (a := ⟨k, 1, none⟩) (by show k < k + 1; omega) _), Lib.hid (apart_lies (g := g') HA5.out (by first | rfl | simp [Value.ownBlock]) (HT7.out) (fun b hb => by have := (HW6.out.lt b hb).2; omega)), Lib.hid (HK7.out.set 1 _), Lib.hid ((HB6.out.grown HG7.out (by omega) (fun b hb => by have := (HV6.out.lt b hb).1; omega)).setCell (p := ⟨k, 1, none⟩) (Nat.le_refl _) _)⟩
              case measure => simp [intOf]; omega
          · obtain rfl : j = l.length := by omega
            have d0 : decide ((l.length : Int) < (l.length : Int)) = false := by simp
            have d0' : decide (l.length < l.length) = false := by simp
            have k0 := HK0.out.1 0 _ rfl
            have k1 := HK0.out.1 1 _ rfl
            have r0 := xb.1 0 _ rfl
            have r1 := xb.1 1 _ rfl
            have r2 := xb.2.1 0
            have r3 := xb.2.1 1
            have hbx := (xb.set 0 (.slice a0 (firstN (cutJ n l x) l.length).length c0)).set 1 (.slice a1 (firstN (cutK n l m x) l.length).length c1)
            have b0 := hbx.1 0 _ rfl
            have b1 := hbx.1 1 _ rfl
            have HA := Lib.hid (show cutA n l m x = firstN (cutJ n l x) l.length from if_pos HC.out)
            have HBB := Lib.hid (show cutB n l m x = firstN (cutK n l m x) l.length from if_pos HC.out)
            have HD := Lib.hid (show decide (CutP n l m x) = true from decide_eq_true HC.out)
            have HWB := Lib.hid xB
            clear xb hbx
            go_wp2
            refine bodyPost_ret (v := .tuple #[.agg #[.slice a0 (firstN (cutJ n l x) l.length).length c0, .slice a1 (firstN (cutK n l m x) l.length).length c1], .bool true]) (by simp [results, Try.f34, go_sem, b0, b1]) rfl ?_
            rw [HA.out, HBB.out, HD.out]
            exact ⟨_, _, rfl, ((HU0.out.setBelow (by show w.heap.size + 1 < _; omega) _).setBelow (by show w.heap.size + 1 < _; omega) _).mono (by omega), ((HU1.out.setBelow (by show w.heap.size + 1 < _; omega) _).setBelow (by show w.heap.size + 1 < _; omega) _).mono (by omega), HAP0.out, (HWB.out.setCell (p := ⟨w.heap.size + 1, 0, none⟩) (by show w.heap.size ≤ w.heap.size + 1; omega) _).setCell (p := ⟨w.heap.size + 1, 1, none⟩) (by show w.heap.size ≤ w.heap.size + 1; omega) _⟩
      · have q0 : (R != 0) = true := by simp [hR0]
        have HN := Lib.hid (HEND.out w2 H2.out (fun h => hR0 (HZ.out.2 h)))
        obtain ⟨b0, b1⟩ := HBX.out w2 H2.out
        clear hR0
        go_wp2
        refine bodyPost_ret (v := .tuple #[.agg #[.slice none 0 0, .slice none 0 0], .bool false]) (by simp [results, Try.f34, go_sem, b0, b1]) rfl ?_
        exact HN.out
    · have HN := Lib.hid (HEND.out w1 H1.out (fun h => hx ⟨h.1.2.1, h.1.2.2⟩))
      obtain ⟨b0, b1⟩ := HBX.out w1 H1.out
      go_wp2_with fail
      refine (l1In_no' x 0 (n - 1) _ (by omega)).mono ?_
      rintro e w2 ⟨rfl, rfl⟩
      clear hx
      go_wp2
      refine bodyPost_ret (v := .tuple #[.agg #[.slice none 0 0, .slice none 0 0], .bool false]) (by simp [results, Try.f34, go_sem, b0, b1]) rfl ?_
      exact HN.out

end Go.Proofs.Ytpifgmmmmhenmaa
