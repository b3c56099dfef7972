/- An array of seven numbers, put in order: impl.descending. -/
import Derived.Test.YtpifgmmmmhenmabDg
import Derived.Deep.MidRow
import Derived.Deep.LoopGhost
import Derived.Laws.StructEq
namespace Go.Proofs.Ytpifgmmmmhenmab
set_option linter.unusedVariables false
set_option linter.unusedSimpArgs false
open Go.RowKit

/-- A block that holds these numbers. -/
def R7 (g : Nat) (L : List Int) (w : World) : Prop := w.rangeAt g 0 (iv L) ∧ (∀ o, w.frozen? ⟨g, o, none⟩ = false) ∧ g < w.heap.size

theorem R7.on {g : Nat} {L : List Int} {w w' : World} {k : Nat} (h : R7 g L w) (hb : Below k w w') (hk : g < k) : R7 g L w' :=
  ⟨fun j v hv => (hb.cell (p := ⟨g, 0 + j, none⟩) hk).trans (h.1 j v hv), fun o => (hb.frozen (p := ⟨g, o, none⟩) hk).trans (h.2.1 o), Nat.lt_of_lt_of_le h.2.2 hb.size⟩

theorem R7.alloc {g : Nat} {L : List Int} {w : World} (h : R7 g L w) (o : Obj) : R7 g L (w.alloc o) := h.on (k := w.heap.size) ((Below.refl _ _).alloc (Nat.le_refl _) o) h.2.2

theorem R7.new (w : World) (L : List Int) (t : TypeId) : R7 w.heap.size L (w.alloc (.cells (iv L).toArray t)) :=
  ⟨fun j v hv => by simpa using hv, fun o => by simp, by simp⟩

theorem R7.set {g : Nat} {L : List Int} {w : World} (h : R7 g L w) {j : Nat} (hj : j < L.length) (x : Int) : R7 g (L.set j x) (w.setCell ⟨g, j, none⟩ (.int .i64 x)) := by
  refine ⟨fun i v hv => ?_, fun o => by rw [World.frozen?_setCell]; exact h.2.1 o, by simpa using h.2.2⟩
  have hs : iv (L.set j x) = (iv L).set j (.int .i64 x) := by simp [iv, List.map_set]
  rw [hs] at hv
  by_cases e : j = i
  · subst e
    have h1 := h.1 j _ (iv_get L j hj)
    simp only [Nat.zero_add] at h1 ⊢
    rw [World.cell?_setCell_same w _ _ h1]
    simpa [iv_length, hj] using hv
  · rw [List.getElem?_set_ne e] at hv
    rw [World.cell?_setCell_other _ _ _ _ (by simp only [Nat.zero_add, ne_eq, Addr.mk.injEq]; omega)]
    exact h.1 i v hv

theorem R7.other {g g' : Nat} {L : List Int} {w : World} (h : R7 g L w) (j : Nat) (v : Value) (hg : g ≠ g') : R7 g L (w.setCell ⟨g', j, none⟩ v) :=
  ⟨fun i x hx => by rw [World.cell?_setCell_other _ _ _ _ (by simp only [ne_eq, Addr.mk.injEq]; omega)]; exact h.1 i x hx, fun o => by rw [World.frozen?_setCell]; exact h.2.1 o, by simpa using h.2.2⟩

theorem R7.cell {g : Nat} {L : List Int} {w : World} (h : R7 g L w) {j : Nat} (hj : j < L.length) : w.cell? ⟨g, j, none⟩ = some (.int .i64 (nth L j)) := by simpa using h.1 j _ (iv_get L j hj)

theorem R7.there {g : Nat} {L : List Int} {w : World} (h : R7 g L w) : w.there g 0 L.length := fun a ha => ⟨h.1.isSome a (by rw [iv_length]; exact ha), h.2.1 _⟩

theorem size_setCells7 (b : Nat) : ∀ (vs : List Value) (o : Nat) (w : World), (w.setCells b o vs).heap.size = w.heap.size
  | [], _, _ => rfl
  | v :: r, o, w => by
    rw [World.setCells, size_setCells7 b r (o + 1)]
    simp

theorem R7.others {g b : Nat} {L : List Int} {w : World} (h : R7 g L w) (vs : List Value) (hg : g ≠ b) : R7 g L (w.setCells b 0 vs) :=
  ⟨World.rangeAt_setCells_apart h.1 b 0 vs (.inl hg), fun o => by rw [World.frozen?_setCells]; exact h.2.1 o, by rw [size_setCells7]; exact h.2.2⟩

theorem R7.whole {g : Nat} {L M : List Int} {w : World} (h : R7 g L w) (hl : M.length = L.length) : R7 g M (w.setCells g 0 (iv M)) :=
  ⟨World.rangeAt_setCells_same _ _ _ _ (by rw [iv_length, hl]; exact h.there), fun o => by rw [World.frozen?_setCells]; exact h.2.1 o, by rw [size_setCells7]; exact h.2.2⟩

theorem below_setCells7 {k : Nat} {w w' : World} (h : Below k w w') (b : Nat) (vs : List Value) (hb : k ≤ b) : ∀ o : Nat, Below k w (w'.setCells b o vs) := by
  induction vs generalizing w' with
  | nil => exact fun _ => h
  | cons v r ih => exact fun o => ih (h.setCell hb v) (o + 1)

theorem iv_one (L : List Int) : (iv L).toArray.all (·.oneCell') = true := all_oneCell_toArray (iv_oneCell L)

theorem eq_row7 (L M : List Int) (hL : L.length = 7) (hM : M.length = 7) (w : World) : (binOp .eql 58 (.agg (iv L).toArray) (.agg (iv M).toArray)).run Try.prog w = .ok (.bool (L == M)) w := by
  have ht : Try.prog.underlying 58 = some (.array 7 3) := by kernel_rfl
  have he : Try.prog.underlying 3 = some (.int .i64) := by kernel_rfl
  have hsz : ∀ w, (sizeOf 3).run Try.prog w = .ok 1 w := fun w => by rw [Try.sizeOf3]
  have hall : (L == M) = (List.range 7).all fun i => nth L i == nth M i := by
    rw [Bool.eq_iff_iff]
    simp only [beq_iff_eq, List.all_eq_true, List.mem_range]
    constructor
    · rintro rfl i _; rfl
    · intro h; exact list_ext_nth (by omega) fun i hi => h i (by omega)
  rw [run_eql_struct, hall, List.range_eq_range', Op.equalIn]
  simp only [Sem.run_bind, run_underlying ht, Result.andThen_ok, hsz, Std.Legacy.Range.forIn_eq_forIn_range', Std.Legacy.Range.size, Nat.sub_zero, Nat.add_sub_cancel, Nat.div_one]
  have hl : ∀ i ∈ List.range' 0 7 1, i < 7 := fun i hi => by simpa using (List.mem_range'_1.1 hi).2
  generalize List.range' 0 7 1 = l at hl ⊢
  induction l with
  | nil => simp
  | cons i l ih =>
    have hi : i < 7 := hl i (by simp)
    have px : (part 3 (iv L).toArray (i * 1)).run Try.prog w = .ok (.int .i64 (nth L i)) w := by
      simp [part, isAgg, run_underlying he, nth, iv, List.getD, List.getElem?_eq_getElem (show i < L.length by omega)]
    have py : (part 3 (iv M).toArray (i * 1)).run Try.prog w = .ok (.int .i64 (nth M i)) w := by
      simp [part, isAgg, run_underlying he, nth, iv, List.getD, List.getElem?_eq_getElem (show i < M.length by omega)]
    have pe : (Op.equalIn 9999 3 (.int .i64 (nth L i)) (.int .i64 (nth M i))).run Try.prog w = .ok (nth L i == nth M i) w := by
      rw [run_equalIn_int w 9998 3 .i64 .i64 _ _ he]
    simp only [List.forIn_cons, Sem.run_bind, px, py, pe, Result.andThen_ok, List.all_cons]
    cases hb : (nth L i == nth M i)
    · simp
    · simp only [Bool.not_true, Bool.false_eq_true, if_false, Sem.run_pure, Result.andThen_ok, Bool.true_and]
      exact ih fun j hj => hl j (by simp [hj])

def zero7 : List Int := [0, 0, 0, 0, 0, 0, 0]

set_option maxHeartbeats 4000000 in
set_option maxRecDepth 100000 in
theorem descending_is (L : List Int) (w : World) (h7 : L.length = 7) (h0 : ∀ x ∈ L, 0 ≤ x) :
    Calls Try.prog 44 #[.agg (iv L).toArray] w (fun e w' => ∃ D, e = .returned (.agg (iv D).toArray) ∧ D.length = 7 ∧ D.Perm L ∧ D.Pairwise (· ≥ ·) ∧ Below w.heap.size w w') := by
  have HU := Lib.hid (show Try.prog.underlying 58 = some (.array 7 3) by kernel_rfl)
  have HI := Lib.hid (show (Try.prog.info? 58).map (·.size) = some 7 by kernel_rfl)
  obtain ⟨p, hp⟩ : ∃ p, p = w.heap.size := ⟨_, rfl⟩
  obtain ⟨w0, hw0⟩ : ∃ x, x = (w.alloc (.cells (iv L).toArray 58)).alloc (.cells #[.int .i64 0, .int .i64 0, .int .i64 0, .int .i64 0, .int .i64 0, .int .i64 0, .int .i64 0] 58) := ⟨_, rfl⟩
  have HW0 := Lib.hid hw0
  have HP := Lib.hid hp
  have H7 := Lib.hid h7
  have HN := Lib.hid h0
  have F0 := Lib.hid (show Below w.heap.size w w0 by rw [hw0]; exact ((Below.refl _ w).alloc (Nat.le_refl _) _).alloc (by simp) _)
  have A0 := Lib.hid (show R7 p L w0 by rw [hw0, hp]; exact (R7.new w L _).alloc _)
  have Z0 := Lib.hid (show R7 (p + 1) zero7 w0 by rw [hw0, hp]; have h := R7.new (w.alloc (.cells (iv L).toArray 58)) zero7 58; simpa [zero7, iv] using h)
  clear hw0 h7 h0 hp
  go_enter Try.func44, Try.ntmps44
  go_wp2
  rw [← HW0.out, ← HP.out]
  go_loopg [3] (potL L).toNat (fun k s wr => ∃ M : List Int, k = (potL M).toNat ∧ Hid (M.length = 7 ∧ M.Perm L) ∧ Hid (R7 p M wr) ∧ Hid (R7 (p + 1) zero7 wr) ∧ Hid (Below w.heap.size w wr))
  case atStart => exact ⟨L, rfl, Lib.hid ⟨H7.out, List.Perm.refl _⟩, A0, Z0, F0⟩
  case round =>
    clear A0 Z0 F0
    obtain ⟨M, hk, HM, HA, HZ, HB⟩ := hrel
    have HK := Lib.hid hk
    have hpr : p + 1 < wr.heap.size := HZ.out.2.2
    obtain ⟨q, hq⟩ : ∃ q, q = wr.heap.size := ⟨_, rfl⟩
    obtain ⟨w1, hw1⟩ : ∃ x, x = (wr.alloc (.cells #[.int .i64 0, .int .i64 0, .int .i64 0, .int .i64 0, .int .i64 0, .int .i64 0, .int .i64 0] 58)).setCells wr.heap.size 0 (iv M).toArray.toList := ⟨_, rfl⟩
    have HQ := Lib.hid hq
    have HW1 := Lib.hid hw1
    have hN0 : R7 q zero7 (wr.alloc (.cells #[.int .i64 0, .int .i64 0, .int .i64 0, .int .i64 0, .int .i64 0, .int .i64 0, .int .i64 0] 58)) := by rw [hq]; exact R7.new wr zero7 58
    have HT := Lib.hid (show (wr.alloc (.cells #[.int .i64 0, .int .i64 0, .int .i64 0, .int .i64 0, .int .i64 0, .int .i64 0, .int .i64 0] 58)).there wr.heap.size 0 (iv M).toArray.size by rw [← hq]; have := hN0.there; simpa [iv_length, HM.out.1, zero7] using this)
    have HQ1 := Lib.hid (show R7 q M w1 by rw [hw1, ← hq]; exact hN0.whole (by rw [HM.out.1]; rfl))
    have HA1 := Lib.hid (show R7 p M w1 by rw [hw1]; exact (HA.out.alloc _).others _ (by omega))
    have HZ1 := Lib.hid (show R7 (p + 1) zero7 w1 by rw [hw1]; exact (HZ.out.alloc _).others _ (by omega))
    have HB1 := Lib.hid (show Below w.heap.size w w1 by rw [hw1]; exact below_setCells7 (HB.out.alloc HB.out.size _) _ _ HB.out.size 0)
    have hqp : p + 1 < q := by omega
    clear hk hw1 hN0 hpr hq
    go_wp2_with (first
      | refine wpList_load_mid rfl 58 (.tmp 1) rfl p 0 rfl (iv M) (.array 7 3) HA.out.1 HU.out rfl (by rw [iv_length, HM.out.1]; exact HI.out) ?_
      | (refine wpList_store_mid rfl 58 (.tmp 3) (.tmp 5) rfl wr.heap.size 0 (iv M).toArray rfl rfl HT.out (by rw [List.size_toArray, iv_length, HM.out.1]; exact HI.out) (iv_one M) ?_; rw [← HW1.out]))
    rw [← HQ.out]
    clear HT HA HZ HB HW1 HQ
    go_loopw [6] (fun x wx => ∃ i : Nat, i ≤ 6 ∧ x = .int .i64 i ∧ Hid (R7 p (pasL M i) wx) ∧ Hid (R7 q M wx) ∧ Hid (R7 (p + 1) zero7 wx) ∧ Hid (Below w.heap.size w wx)) (fun x _ => 6 - (intOf x).toNat)
    case atStart => exact ⟨0, by omega, rfl, HA1, HQ1, HZ1, HB1⟩
    case round =>
      clear HQ1 HA1 HZ1 HB1
      obtain ⟨i, hi, rfl, HA, HQ, HZ, HB⟩ := hrel
      have hlen : (pasL M i).length = 7 := by rw [pas_length]; exact HM.out.1
      by_cases hlt : i < 6
      · have d0 : decide ((i : Int) < 6) = true := decide_eq_true (by omega)
        have d0' : decide (i < 6) = true := decide_eq_true hlt
        obtain ⟨K, hK⟩ : ∃ K, K = pasL M i := ⟨_, rfl⟩
        have HKS := Lib.hid (show pasL M (i + 1) = swpL K i by rw [hK]; rfl)
        rw [← hK] at HA hlen
        have c0 := HA.out.cell (show i < K.length by omega)
        have c1 := HA.out.cell (show i + 1 < K.length by omega)
        have f0 := HA.out.2.1 i
        have f1 := HA.out.2.1 (i + 1)
        obtain ⟨A, hA⟩ : ∃ A, A = nth K i := ⟨_, rfl⟩
        obtain ⟨B, hB⟩ : ∃ B, B = nth K (i + 1) := ⟨_, rfl⟩
        rw [← hA] at c0
        rw [← hB] at c1
        have HL := Lib.hid hlen
        have HAE := Lib.hid hA
        have HBE := Lib.hid hB
        clear hK hlen hA hB
        by_cases hAB : A < B
        · have d1 : decide (A < B) = true := decide_eq_true hAB
          have HSW := Lib.hid (show swpL K i = (K.set i B).set (i + 1) A by unfold swpL; rw [← HAE.out, ← HBE.out, if_pos hAB])
          clear hAB
          go_wp2
          go_quiet (fail)
          go_wp2
          obtain ⟨wn, hwn⟩ : ∃ wn, wn = wr.drewN nq := ⟨_, rfl⟩
          have hbn : Below wr.heap.size wr wn := by rw [hwn]; exact below_drewN (Below.refl _ _) _
          rw [← hwn]
          have HAn := Lib.hid (HA.out.on hbn HA.out.2.2)
          have HQn := Lib.hid (HQ.out.on hbn HQ.out.2.2)
          have HZn := Lib.hid (HZ.out.on hbn HZ.out.2.2)
          have HBn := Lib.hid (show Below w.heap.size w wn from HB.out.trans (hbn.mono HB.out.size))
          have HA2 := Lib.hid (show R7 p (pasL M (i + 1)) ((wn.setCell ⟨p, i, none⟩ (.int .i64 B)).setCell ⟨p, i + 1, none⟩ (.int .i64 A)) by
            rw [HKS.out, HSW.out]
            exact (HAn.out.set (by rw [HL.out]; omega) B).set (by rw [List.length_set, HL.out]; omega) A)
          clear hwn hbn c0 c1 f0 f1 HA HQ HZ HB
          have c0 : wn.cell? ⟨p, i, none⟩ = some (.int .i64 A) := by rw [HAE.out]; exact HAn.out.cell (by rw [HL.out]; omega)
          have c1 : wn.cell? ⟨p, i + 1, none⟩ = some (.int .i64 B) := by rw [HBE.out]; exact HAn.out.cell (by rw [HL.out]; omega)
          have f0 := HAn.out.2.1 i
          have f1 := HAn.out.2.1 (i + 1)
          go_region
          all_goals
            go_wp2
            go_roundw
            case rel => exact ⟨i + 1, by omega, by go_num, Lib.hid ⟨HA2.out.1, HA2.out.2.1, HA2.out.2.2⟩, Lib.hid ((HQn.out.other (g' := p) i (.int .i64 B) (by omega)).other (g' := p) (i + 1) (.int .i64 A) (by omega)), Lib.hid ((HZn.out.other (g' := p) i (.int .i64 B) (by omega)).other (g' := p) (i + 1) (.int .i64 A) (by omega)), Lib.hid ((HBn.out.setCell (p := ⟨p, i, none⟩) (by rw [HP.out]; exact Nat.le_refl _) (.int .i64 B)).setCell (p := ⟨p, i + 1, none⟩) (by rw [HP.out]; exact Nat.le_refl _) (.int .i64 A)).drew⟩
            case measure => simp [intOf]; omega
        · have d1 : decide (A < B) = false := decide_eq_false hAB
          have HSW := Lib.hid (show swpL K i = K by unfold swpL; rw [← HAE.out, ← HBE.out, if_neg hAB])
          clear hAB
          go_wp2
          go_quiet (fail)
          go_wp2
          go_roundw
          case rel => exact ⟨i + 1, by omega, by go_num, Lib.hid (by rw [HKS.out, HSW.out]; exact HA.out.on (k := wr.heap.size) (below_drewN (Below.refl _ _) _) HA.out.2.2), Lib.hid (HQ.out.on (k := wr.heap.size) (below_drewN (Below.refl _ _) _) HQ.out.2.2), Lib.hid (HZ.out.on (k := wr.heap.size) (below_drewN (Below.refl _ _) _) HZ.out.2.2), Lib.hid (below_drewN HB.out _)⟩
          case measure => simp [intOf]; omega
      · obtain rfl : i = 6 := by omega
        have d0 : decide ((6 : Int) < 6) = false := by simp
        obtain ⟨K, hK⟩ : ∃ K, K = pasL M 6 := ⟨_, rfl⟩
        rw [← hK] at HA hlen
        have HL := Lib.hid hlen
        have HKE := Lib.hid hK
        obtain ⟨b, hb⟩ : ∃ b, b = (K == M) := ⟨_, rfl⟩
        have qE : ∀ W : World, (binOp .eql 58 (.agg (iv K).toArray) (.agg (iv M).toArray)).run Try.prog W = .ok (.bool b) W := fun W => by rw [hb]; exact eq_row7 K M hlen HM.out.1 W
        clear hK hlen hlt
        cases b with
        | true =>
          have HKM := Lib.hid (show K = M by simpa using hb.symm)
          have HZT := Lib.hid (show wr.there (p + 1) 0 (iv K).toArray.size by have := HZ.out.there; simpa [iv_length, HL.out, zero7] using this)
          have HZ2 := Lib.hid (show R7 (p + 1) K (wr.setCells (p + 1) 0 (iv K).toArray.toList) by exact HZ.out.whole (by rw [HL.out]; rfl))
          have HB2 := Lib.hid (show Below w.heap.size w (wr.setCells (p + 1) 0 (iv K).toArray.toList) from below_setCells7 HB.out _ _ (by rw [← HP.out]; omega) 0)
          clear hb
          go_wp2_with (first
            | refine wpList_load_mid rfl 58 (.tmp 1) rfl p 0 rfl (iv K) (.array 7 3) HA.out.1 HU.out rfl (by rw [iv_length, HL.out]; exact HI.out) ?_
            | refine wpList_load_mid rfl 58 (.tmp 3) rfl q 0 rfl (iv M) (.array 7 3) HQ.out.1 HU.out rfl (by rw [iv_length, HM.out.1]; exact HI.out) ?_
            | refine wpList_store_mid rfl 58 (.tmp 2) (.tmp 33) rfl (p + 1) 0 (iv K).toArray rfl rfl HZT.out (by rw [List.size_toArray, iv_length, HL.out]; exact HI.out) (iv_one K) ?_)
          have hres := run_loadVar_mid (P := Try.prog) _ (p + 1) 0 58 (iv K) (.array 7 3) HZ2.out.1 HU.out rfl (by rw [iv_length, HL.out]; exact HI.out)
          refine bodyPost_ret (v := .agg (iv K).toArray) (by simp [results, Try.results44, asAddr, hres]) rfl ⟨K, rfl, HL.out, ?_, ?_, HB2.out⟩
          · rw [HKM.out]; exact HM.out.2
          · rw [HKM.out]; exact pas_same HM.out.1 (by rw [← HKE.out]; exact HKM.out)
        | false =>
          have HKM := Lib.hid (show K ≠ M by simpa using hb.symm)
          clear hb
          go_wp2_with (first
            | refine wpList_load_mid rfl 58 (.tmp 1) rfl p 0 rfl (iv K) (.array 7 3) HA.out.1 HU.out rfl (by rw [iv_length, HL.out]; exact HI.out) ?_
            | refine wpList_load_mid rfl 58 (.tmp 3) rfl q 0 rfl (iv M) (.array 7 3) HQ.out.1 HU.out rfl (by rw [iv_length, HM.out.1]; exact HI.out) ?_)
          have hp2 := (pas_perm HM.out.1 6 (by omega)).trans HM.out.2
          have hps := pot_bd (L := K) (fun x hx => HN.out x (by rw [HKE.out] at hx; exact hp2.mem_iff.1 hx))
          have hpl : potL K < potL M := by rw [HKE.out]; exact pas_less HM.out.1 (by rw [← HKE.out]; exact HKM.out)
          have hgk : (potL K).toNat < gk := by rw [HK.out]; omega
          go_roundg ((potL K).toNat)
          case rel => exact ⟨K, rfl, Lib.hid ⟨HL.out, by rw [HKE.out]; exact hp2⟩, HA, HZ, HB⟩
          all_goals omega

end Go.Proofs.Ytpifgmmmmhenmab
