/- DegreesOf. -/
import Derived.Test.YtpifgmmmmhenmabDh
import Derived.Test.YtpifgmmmmhenmabCn
import Derived.Test.YtpifgmmmmhenmabTs
import Derived.Test.YtpifgmmmmhenmabH3
import Derived.Test.YtpifgmmmmhenmabG4
import Derived.Deep.CutRange
namespace Go.Proofs.Ytpifgmmmmhenmab
set_option linter.unusedVariables false
set_option linter.unusedSimpArgs false
open Go.RowKit

def degL (l : List Int) (k : Nat) : List Int := (List.range k).map fun v => popU (nth l v)

def degR (n : Int) (l : List Int) : List Int := if IsG n l then (sortL (degL l l.length)).reverse else []

theorem degL_length (l : List Int) (k : Nat) : (degL l k).length = k := by simp [degL]

theorem degL_succ (l : List Int) (k : Nat) : degL l (k + 1) = degL l k ++ [popU (nth l k)] := by simp [degL, List.range_succ]

theorem popU_in7 (x : Int) : 0 ≤ popU x ∧ popU x ≤ 7 := by
  unfold popU
  split
  · have := listU_length x 7; omega
  · omega

theorem degL_in (l : List Int) (k : Nat) : ∀ x ∈ degL l k, 0 ≤ x ∧ x ≤ 7 := fun x hx => by
  unfold degL at hx
  obtain ⟨v, -, rfl⟩ := List.mem_map.1 hx
  exact popU_in7 _

def degZ (l : List Int) (k : Nat) : List Int := degL l k ++ List.replicate (7 - k) 0

theorem degZ_length (l : List Int) (k : Nat) (h : k ≤ 7) : (degZ l k).length = 7 := by simp [degZ, degL_length]; omega

theorem degZ_set (l : List Int) (k : Nat) (h : k < 7) : (degZ l k).set k (popU (nth l k)) = degZ l (k + 1) := by
  unfold degZ
  obtain ⟨m, hm⟩ : ∃ m, 7 - k = m + 1 := ⟨6 - k, by omega⟩
  have h2 : 7 - (k + 1) = m := by omega
  rw [hm, h2, List.set_append_right _ _ (by rw [degL_length]; exact Nat.le_refl _), degL_length, Nat.sub_self, degL_succ, List.replicate_succ, List.set_cons_zero, List.append_assoc]
  rfl

theorem degR_length {n : Int} {l : List Int} (h : IsG n l) : (degR n l).length = l.length := by
  unfold degR
  rw [if_pos h, List.length_reverse, sortL_length, degL_length]

theorem degR_bd (n : Int) (l : List Int) : (degR n l).length ≤ 7 := by
  by_cases h : IsG n l
  · rw [degR_length h]; have := h.2.1; have := h.2.2.1; omega
  · unfold degR; rw [if_neg h]; simp

theorem R7.ints {g : Nat} {L : List Int} {w : World} (h : R7 g L w) (hin : inI64 L) {k : Nat} (hk : k ≤ L.length) (h7 : L.length = 7) : Ints w (.slice (some ⟨g, 0, none⟩) (L.take k).length 7) (L.take k) := by
  refine ⟨fun x hx => hin x (List.mem_of_mem_take hx), _, _, rfl, by rw [List.length_take]; omega, by unfold maxLen; omega, .inr ⟨g, 0, rfl, h.2.2, fun j hj => ?_⟩⟩
  rw [List.length_take] at hj
  have := h.cell (show j < L.length by omega)
  rw [Nat.zero_add, this]
  unfold nth List.getD
  rw [List.getElem?_take_of_lt (by omega)]

theorem slice7 (q k : Nat) (h : k ≤ 7) (w : World) : (Instr.sliceAt 58 (.pointer (some ⟨q, 0, none⟩)) none (some (.int .i64 (k : Int))) none).run Try.prog w = .ok (.slice (some ⟨q, 0, none⟩) k 7) w := by
  have hl : Try.prog.arrayLen 58 = 7 := by kernel_rfl
  have he : Try.prog.elem 58 = 3 := by kernel_rfl
  have ht : Try.prog.underlying 58 = some (.array (Try.prog.arrayLen 58) (Try.prog.elem 58)) := by kernel_rfl
  rw [run_sliceAt_array_h w _ _ ht .i64 (k : Int) (by omega) (by rw [hl]; omega), he, Try.sizeOf3, hl]
  simp only [Result.andThen_ok, slicedAt, Int.toNat_natCast, Nat.sub_zero, Nat.zero_mul, addr_add, ite_self]

set_option maxHeartbeats 4000000 in
set_option maxRecDepth 100000 in
theorem implDegrees (n : Int) (v : Value) (l : List Int) (w : World) (h : Ints w v l) :
    Calls Try.prog 12 #[.agg #[.int .i64 n, v]] w (GetsI w.heap.size w (degR n l)) := by
  obtain ⟨a, cap, rfl, -, -⟩ := h.form
  have HU := Lib.hid (show Try.prog.underlying 58 = some (.array 7 3) by kernel_rfl)
  have HI7 := Lib.hid (show (Try.prog.info? 58).map (·.size) = some 7 by kernel_rfl)
  have HA := argG' (T := 27) (n := n) h
  have HI := Lib.hid h
  clear h
  go_enter Try.func12, Try.ntmps12
  go_wp2_with fail
  refine (implIsG_any n _ l _ (HI.out.alloc _)).mono ?_
  rintro e w1 ⟨r, rfl, hr, hb⟩
  have HB := Lib.hid (hb.mono (B' := w.heap.size + 1) (by simp))
  have HR := Lib.hid hr
  clear hb hr
  obtain ⟨c0, c1, cI, cB, hz⟩ := HA.out _ HB.out
  have HCI := Lib.hid cI
  have HCB := Lib.hid cB
  clear cI cB
  cases r with
  | false =>
    have HN := Lib.hid (show degR n l = [] by unfold degR; rw [if_neg (fun h => absurd (HR.out.2 h) (by decide))])
    go_wp2
    go_ret
    exact ⟨_, rfl, by rw [HN.out]; exact ⟨inI64_nil, World.ownsRow_nil _ _ _ _⟩, HCB.out⟩
  | true =>
    have HG := Lib.hid (HR.out.1 rfl)
    have hn7 : l.length ≤ 7 := by have := HG.out.2.1; have := HG.out.2.2.1; omega
    have hn1 : 0 < l.length := by have := HG.out.1; have := HG.out.2.2.1; omega
    have HNL := Lib.hid (show n = (l.length : Int) from HG.out.2.2.1.symm)
    obtain ⟨q, hq⟩ : ∃ q, q = w1.heap.size := ⟨_, rfl⟩
    obtain ⟨w2, hw2⟩ : ∃ x, x = w1.alloc (.cells #[.int .i64 0, .int .i64 0, .int .i64 0, .int .i64 0, .int .i64 0, .int .i64 0, .int .i64 0] 58) := ⟨_, rfl⟩
    have HW2 := Lib.hid hw2
    have HQ := Lib.hid hq
    have HQZ := Lib.hid (show w.heap.size + 1 ≤ q by omega)
    have HZ := Lib.hid (show R7 q (degZ l 0) w2 by rw [hw2, hq]; have h := R7.new w1 zero7 58; simpa [zero7, iv, degZ, degL] using h)
    have HB2 := Lib.hid (show Below (w.heap.size + 1) (w.alloc (.cells #[.int .i64 n, .slice a l.length cap] 27)) w2 by rw [hw2]; exact HB.out.alloc (by omega) _)
    have e1 : w2.cell? ⟨w.heap.size, 1, none⟩ = some (.slice a l.length cap) := (HA.out _ HB2.out).2.1
    clear hw2 hq HR c0 hz
    clear c1
    go_upto_region 4 with fail
    rw [← HW2.out, ← HQ.out]
    go_wp2
    clear e1
    go_loopw [12] (fun x wr => ∃ k : Nat, k ≤ l.length ∧ x = .int .i64 k ∧ Hid (R7 q (degZ l k) wr) ∧ Hid (Below (w.heap.size + 1) (w.alloc (.cells #[.int .i64 n, .slice a l.length cap] 27)) wr)) (fun x _ => l.length - (intOf x).toNat)
    case atStart => exact ⟨0, by omega, rfl, HZ, HB2⟩
    case round =>
      clear HZ HB2 HW2
      obtain ⟨k, hk, rfl, HZ, HB2⟩ := hrel
      obtain ⟨c0, c1, cI, cB, hz⟩ := HA.out _ HB2.out
      have HCI2 := Lib.hid cI
      have HCB2 := Lib.hid cB
      by_cases hlt : k < l.length
      · have d0 : decide ((k : Int) < (l.length : Int)) = true := decide_eq_true (by omega)
        have d0' : decide (k < l.length) = true := decide_eq_true hlt
        obtain ⟨bl, offl, cl, hv, _, hml1, hbl, hcl⟩ := HI.out.pos (by omega)
        simp only [Value.slice.injEq] at hv
        obtain ⟨rfl, -, rfl⟩ := hv
        have f1 := (cB.cell (p := ⟨bl, offl + k, none⟩) hbl).trans (hcl k hlt)
        obtain ⟨T, hT⟩ : ∃ T, T = nth l k := ⟨_, rfl⟩
        rw [← hT] at f1
        have hk7 : k < 7 := by omega
        have hk7' : (k : Int) < 7 := by omega
        have g0 := HZ.out.cell (show k < (degZ l k).length by rw [degZ_length l k (by omega)]; exact hk7)
        have g1 := HZ.out.2.1 k
        have HSET := Lib.hid (show R7 q (degZ l (k + 1)) (wr.setCell ⟨q, k, none⟩ (.int .i64 (popU T))) by rw [hT, ← degZ_set l k hk7]; exact HZ.out.set (by rw [degZ_length l k (by omega)]; exact hk7) _)
        have HBS := Lib.hid (HB2.out.setCell (p := ⟨q, k, none⟩) HQZ.out (.int .i64 (popU T)))
        unfold maxLen at hml1
        clear hcl hT cI cB
        go_wp2_with fail
        refine (implCountSet T _).mono ?_
        rintro e w5 ⟨rfl, rfl⟩
        go_wp2
        go_roundw
        case rel => exact ⟨k + 1, by omega, by go_num, HSET, HBS⟩
        case measure => simp [intOf]; omega
      · obtain rfl : k = l.length := by omega
        have d0 : decide ((l.length : Int) < (l.length : Int)) = false := by simp
        have d0' : decide (l.length < l.length) = false := by simp
        clear cI cB hlt
        have hdl := degZ_length l l.length hn7
        have hd0 : ∀ x ∈ degZ l l.length, 0 ≤ x := fun x hx => by
          unfold degZ at hx
          rcases List.mem_append.1 hx with h | h
          · exact (degL_in l _ x h).1
          · rw [List.eq_of_mem_replicate h]; omega
        have HDL := Lib.hid hdl
        have HD0 := Lib.hid hd0
        clear hdl hd0
        go_wp2_with (first
          | refine wpList_load_mid rfl 58 (.tmp 3) rfl q 0 rfl (iv (degZ l l.length)) (.array 7 3) HZ.out.1 HU.out rfl (by rw [iv_length, HDL.out]; exact HI7.out) ?_)
        refine (descending_is (degZ l l.length) _ HDL.out HD0.out).mono ?_
        rintro e w5 ⟨D, rfl, hD7, hDP, hDS, hb5⟩
        have hDE : D = degR n l ++ List.replicate (7 - l.length) 0 := by
          have := desc_is (L := degL l l.length) (D := D) (m := 7 - l.length) (fun x hx => (degL_in l _ x hx).1) hDS hDP
          rw [this]
          unfold degR
          rw [if_pos HG.out]
        have HTK := Lib.hid (show D.take l.length = degR n l by rw [hDE, List.take_left' (degR_length HG.out)])
        have HZ5 := Lib.hid (HZ.out.on hb5 HZ.out.2.2)
        have HB5 := Lib.hid (HB2.out.trans (hb5.mono (by omega)))
        have HD7 := Lib.hid hD7
        have HDin := Lib.hid (show inI64 D from fun x hx => by
          have h1 := hDP.mem_iff.1 hx
          unfold degZ at h1
          rcases List.mem_append.1 h1 with h | h
          · have := degL_in l _ x h; omega
          · rw [List.eq_of_mem_replicate h]; omega)
        clear hD7 hDP hDS hb5 hDE HCI2 HCB2 c0 c1 hz HDL HD0
        obtain ⟨w6, hw6⟩ : ∃ x, x = w5.setCells q 0 (iv D).toArray.toList := ⟨_, rfl⟩
        have HW6 := Lib.hid hw6
        have HT5 := Lib.hid (show w5.there q 0 (iv D).toArray.size by have := HZ5.out.there; simpa [iv_length, HD7.out, degZ_length l l.length hn7] using this)
        have HZ6 := Lib.hid (show R7 q D w6 by rw [hw6]; exact HZ5.out.whole (by rw [HD7.out, degZ_length l l.length hn7]))
        have HB6 := Lib.hid (show Below (w.heap.size + 1) (w.alloc (.cells #[.int .i64 n, .slice a l.length cap] 27)) w6 by rw [hw6]; exact below_setCells7 HB5.out _ _ HQZ.out 0)
        obtain ⟨c0, c1, cI, cB, hz⟩ := HA.out _ HB6.out
        have HCB6 := Lib.hid cB
        have HLD := Lib.hid (HZ6.out.ints HDin.out (k := l.length) (by rw [HD7.out]; exact hn7) HD7.out)
        have hq6 := HZ6.out.2.2
        have c0' : w6.cell? ⟨w.heap.size, 0, none⟩ = some (.int .i64 (l.length : Int)) := by rw [c0, HNL.out]
        have hsl := slice7 q l.length hn7 w6
        clear hw6 cI cB c1 c0
        go_wp2_with (first
          | (refine wpList_store_mid rfl 58 (.tmp 3) (.tmp 23) rfl q 0 (iv D).toArray rfl rfl HT5.out (by rw [List.size_toArray, iv_length, HD7.out]; exact HI7.out) (iv_one D) ?_; rw [← HW6.out]))
        have HTL := Lib.hid (show (D.take l.length).length = l.length by rw [List.length_take, HD7.out]; omega)
        refine (slicesClone7 _ (D.take l.length) _ (by have := HLD.out; rw [HTL.out] at this; exact this) (.inr ⟨_, _, by rw [HTL.out]⟩) (by rw [HTL.out]; omega)).mono ?_
        rintro e w7 ⟨v7, rfl, ho7, hb7⟩
        have HO7 := Lib.hid ho7
        have HB7 := Lib.hid (HCB6.out.trans (hb7.mono HCB6.out.size))
        have HZ7 := Lib.hid HCB6.out.size
        clear ho7 hb7 c0' hz hq6 hsl
        go_wp2
        go_ret
        exact ⟨_, rfl, by rw [← HTK.out]; exact HO7.out.mono HZ7.out, HB7.out⟩

set_option maxHeartbeats 4000000 in
set_option maxRecDepth 100000 in
theorem specDegrees (n : Int) (v : Value) (l : List Int) (w : World) (h : Ints w v l) :
    Calls Try.prog 10 #[.agg #[.int .i64 n, v]] w (GetsI w.heap.size w (degR n l)) := by
  obtain ⟨a, cap, rfl, -, -⟩ := h.form
  obtain ⟨i0, hi, hz0, hz1, hz2⟩ := info_parts infoInt
  have HA := argG' (T := 27) (n := n) h
  have HI := Lib.hid h
  obtain ⟨w0, hw0⟩ : ∃ x, x = w.alloc (.cells #[.int .i64 n, .slice a l.length cap] 27) := ⟨_, rfl⟩
  have HW0 := Lib.hid hw0
  have hz00 : w0.heap.size = w.heap.size + 1 := by rw [hw0]; simp
  have HE0 := Lib.hid (OwnI.lit0n w0 (w.heap.size + 1) (by omega))
  have HBE := Lib.hid (show Below (w.heap.size + 1) w0 (w0.alloc (.cells #[] 3)) from (Below.refl _ _).alloc (by omega) _)
  rw [← hw0] at HA
  clear h hw0
  go_enter Try.func10, Try.ntmps10
  by_cases hg : IsG n l
  · have HG := Lib.hid hg
    have hn7 : l.length ≤ 7 := by have := hg.2.1; have := hg.2.2.1; omega
    have hle : (l.length : Int) ≤ n := by have := hg.2.2.1; omega
    have hge : n ≤ (l.length : Int) := by have := hg.2.2.1; omega
    have HN := Lib.hid (show degR n l = (sortL (degL l l.length)).reverse by unfold degR; rw [if_pos hg])
    clear hg
    go_upto_region 1 with fail
    rw [← HW0.out]
    clear HW0
    go_wp2
    go_loopw [3, 4] (fun s x wr => ∃ k : Nat, k ≤ l.length ∧ x = .int .i64 k ∧ Hid (OwnI (w.heap.size + 1) wr s (degL l k)) ∧ Hid (Below (w.heap.size + 1) w0 wr)) (fun _ x _ => l.length - (intOf x).toNat)
    case atStart => exact ⟨0, by omega, rfl, (by rw [hz00] at HE0; exact HE0), HBE⟩
    case round =>
      clear HE0 HBE
      obtain ⟨k, hk, rfl, HO, HBW⟩ := hrel
      obtain ⟨c0, c1, cI, cB, hz⟩ := HA.out _ HBW.out
      have HCI := Lib.hid cI
      have HCB := Lib.hid cB
      clear cI cB
      by_cases hlt : k < l.length
      · have d0 : decide ((k : Int) < n) = true := decide_eq_true (by omega)
        go_wp2_with fail
        refine (specIsG_any n _ l _ HCI.out).mono ?_
        rintro e wr2 ⟨r, rfl, hr, hb⟩
        obtain rfl : r = true := hr.2 HG.out
        have HB2 := Lib.hid (HBW.out.trans (hb.mono (by omega)))
        have HO2 := Lib.hid (HO.out.on hb)
        clear hb hr c0 c1 hz HCI HCB
        obtain ⟨c0, c1, cI, cB, hz⟩ := HA.out _ HB2.out
        obtain ⟨bl, offl, cl, hv, _, hml1, hbl, hcl⟩ := HI.out.pos (by omega)
        simp only [Value.slice.injEq] at hv
        obtain ⟨rfl, -, rfl⟩ := hv
        have f1 := (cB.cell (p := ⟨bl, offl + k, none⟩) hbl).trans (hcl k hlt)
        obtain ⟨T, hT⟩ : ∃ T, T = nth l k := ⟨_, rfl⟩
        rw [← hT] at f1
        have HSN := Lib.hid (show degL l k ++ [popU T] = degL l (k + 1) by rw [degL_succ, hT])
        have hpu := popU_in7 T
        unfold maxLen at hml1
        clear hcl hT cI cB
        go_wp2_with fail
        refine (specCountSet T _).mono ?_
        rintro e wr3 ⟨rfl, hb3⟩
        have HO3 := Lib.hid (HO2.out.on hb3)
        have HB3 := Lib.hid (HB2.out.trans (hb3.mono (by omega)))
        have hz3 : w.heap.size + 1 ≤ wr3.heap.size := by have := hb3.size; omega
        obtain ⟨Y, hY⟩ : ∃ Y, Y = popU T := ⟨_, rfl⟩
        rw [← hY] at hpu HSN ⊢
        clear hb3 c0 c1 hz f1 hY
        go_wp2_with (at_builtin; refine wpList_append_int rfl (.tmp 16) (.tmp 23) 22 rfl (w.heap.size + 1) i0 Try.underlying22 hi hz0 hz1 hz2 _ (degL l k) rfl HO3.out Y (by omega) (by omega) rfl (by rw [degL_length]; omega) hz3 ?_)
        intro v2 w2 ho2 hg2 hne2
        have HO4 := Lib.hid (show OwnI (w.heap.size + 1) w2 v2 (degL l (k + 1)) by rw [← HSN.out]; exact ho2)
        have HB4 := Lib.hid ((HB3.out.alloc hz3 (.cells #[.int .i64 Y] 3)).grown hg2 (by simp; omega) (fun q hq => (HO3.out.lt q hq).1))
        clear ho2 hg2 hne2
        go_wp2
        go_roundw
        case rel => exact ⟨k + 1, by omega, by go_num, HO4, HB4⟩
        case measure => simp [intOf] <;> omega
      · obtain rfl : k = l.length := by omega
        have d0 : decide ((l.length : Int) < n) = false := decide_eq_false (by omega)
        clear hlt
        go_wp2_with fail
        refine (specSorted _ _ _ HO.out.ints (by rw [degL_length]; omega)).mono ?_
        rintro e w5 ⟨v5, rfl, ho5, hb5⟩
        have HO5 := Lib.hid ho5
        have HB5 := Lib.hid (HCB.out.trans (hb5.mono HCB.out.size))
        clear ho5 hb5
        go_wp2_with fail
        refine (specRev9 _ _ _ HO5.out.ints (by rw [sortL_length, degL_length]; omega)).mono ?_
        rintro e w6 ⟨v6, rfl, ho6, hb6⟩
        have HO6 := Lib.hid ho6
        have HB6 := Lib.hid (HB5.out.trans (hb6.mono HB5.out.size))
        have HZ6 := Lib.hid (HB5.out.size)
        clear ho6 hb6
        go_wp2
        go_ret
        exact ⟨_, rfl, by rw [HN.out]; exact HO6.out.mono HZ6.out, HB6.out⟩
  · have HNO := Lib.hid hg
    have HN := Lib.hid (show degR n l = [] by unfold degR; rw [if_neg hg])
    clear hg
    go_upto_region 1 with fail
    rw [← HW0.out]
    clear HW0
    go_wp2
    go_loopw [3, 4] (fun s x wr => x = .int .i64 0 ∧ Hid (OwnI (w.heap.size + 1) wr s []) ∧ Hid (Below (w.heap.size + 1) w0 wr)) (fun _ _ _ => 0)
    case atStart => exact ⟨rfl, (by rw [hz00] at HE0; exact HE0), HBE⟩
    case round =>
      clear HE0 HBE
      obtain ⟨rfl, HO, HBW⟩ := hrel
      obtain ⟨c0, c1, cI, cB, hz⟩ := HA.out _ HBW.out
      have HCI := Lib.hid cI
      have HCB := Lib.hid cB
      clear cI cB
      have HEND : Hid (∀ W s, OwnI (w.heap.size + 1) W s [] → Below w.heap.size w W → Calls Try.prog 41 #[s] W (GetsI W.heap.size W [])) := fun W s ho _ => by
        have := specSorted s [] W ho.ints (by simp)
        have e : sortL [] = [] := by simp [sortL]
        rw [e] at this
        exact this
      by_cases h0 : 0 < n
      · have d0 : decide (0 < n) = true := decide_eq_true h0
        clear h0
        go_wp2_with fail
        refine (specIsG_any n _ l _ HCI.out).mono ?_
        rintro e wa ⟨r, rfl, hr, hb⟩
        obtain rfl : r = false := by
          cases r with
          | false => rfl
          | true => exact absurd (hr.1 rfl) HNO.out
        have HCB2 := Lib.hid (HCB.out.trans (hb.mono HCB.out.size))
        have HO2 := Lib.hid (HO.out.on hb)
        clear hb hr c0 c1 hz
        go_wp2_with fail
        refine (HEND.out _ _ HO2.out HCB2.out).mono ?_
        rintro e w5 ⟨v5, rfl, ho5, hb5⟩
        have HO5 := Lib.hid ho5
        have HB5 := Lib.hid (HCB2.out.trans (hb5.mono HCB2.out.size))
        clear ho5 hb5
        go_wp2_with fail
        refine (specRev9 _ _ _ HO5.out.ints (by simp)).mono ?_
        rintro e w6 ⟨v6, rfl, ho6, hb6⟩
        have HO6 := Lib.hid ho6
        have HB6 := Lib.hid (HB5.out.trans (hb6.mono HB5.out.size))
        have HZ6 := Lib.hid (HB5.out.size)
        clear ho6 hb6
        go_wp2
        go_ret
        exact ⟨_, rfl, by rw [HN.out]; exact HO6.out.mono HZ6.out, HB6.out⟩
      · have d0 : decide (0 < n) = false := decide_eq_false h0
        clear h0 c1 hz
        go_wp2_with fail
        refine (HEND.out _ _ HO.out HCB.out).mono ?_
        rintro e w5 ⟨v5, rfl, ho5, hb5⟩
        have HO5 := Lib.hid ho5
        have HB5 := Lib.hid (HCB.out.trans (hb5.mono HCB.out.size))
        clear ho5 hb5
        go_wp2_with fail
        refine (specRev9 _ _ _ HO5.out.ints (by simp)).mono ?_
        rintro e w6 ⟨v6, rfl, ho6, hb6⟩
        have HO6 := Lib.hid ho6
        have HB6 := Lib.hid (HB5.out.trans (hb6.mono HB5.out.size))
        have HZ6 := Lib.hid (HB5.out.size)
        clear ho6 hb6
        go_wp2
        go_ret
        exact ⟨_, rfl, by rw [HN.out]; exact HO6.out.mono HZ6.out, HB6.out⟩

end Go.Proofs.Ytpifgmmmmhenmab
