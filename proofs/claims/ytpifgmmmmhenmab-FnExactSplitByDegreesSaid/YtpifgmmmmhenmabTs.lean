/- spec.l8Sorted. -/
import Derived.Test.YtpifgmmmmhenmabTp
import Derived.Test.YtpifgmmmmhenmabRe
import Derived.Test.YtpifgmmmmhenmabT2
import Derived.Test.YtpifgmmmmhenmabQ
import Derived.Deep.RegionHeld3
namespace Go.Proofs.Ytpifgmmmmhenmab
set_option linter.unusedVariables false
set_option linter.unusedSimpArgs false
open Go.RowKit Go.Shelf

theorem OwnI.single {B : Nat} {w : World} {x : Int} (hB : B ≤ w.heap.size) (h0 : -9223372036854775808 ≤ x) (h1 : x ≤ 9223372036854775807) : OwnI B (w.alloc (.cells #[.int .i64 x] 3)) (.slice (some ⟨w.heap.size, 0, none⟩) 1 1) [x] :=
  ⟨inI64_one h0 h1, by simp [iv], .inr ⟨w.heap.size, 1, #[.int .i64 x], rfl, hB, by show (w.heap.push _)[w.heap.size]? = _; rw [Array.getElem?_push_size], by simp, by unfold maxLen; omega, by simp, by simp [iv]⟩⟩

theorem Ints.dropE {w : World} {b len cap : Nat} {l : List Int} (h : Ints w (.slice (some ⟨b, 0, none⟩) len cap) l) {i : Nat} (hi : i ≤ l.length) : Ints w (.slice (some ⟨b, i, none⟩) (len - i) (cap - i)) (l.drop i) := by
  rcases Nat.lt_or_ge i l.length with h' | h'
  · have := h.drop h'
    rw [Nat.zero_add] at this
    exact this
  · obtain rfl : i = l.length := by omega
    obtain ⟨h0, a', cap', hv, hc, hm, -⟩ := h
    simp only [Value.slice.injEq] at hv
    obtain ⟨-, rfl, rfl⟩ := hv
    rw [List.drop_length, Nat.sub_self]
    exact ⟨inI64_nil, _, _, rfl, by simp, by unfold maxLen at hm ⊢; omega, .inl rfl⟩

theorem Ints.dropF {w : World} {b len cap : Nat} {l : List Int} (h : Ints w (.slice (some ⟨b, 0, none⟩) len cap) l) {i : Nat} (hi : i ≤ l.length) : Ints w (.slice (if cap = i then some ⟨b, 0, none⟩ else some ⟨b, i, none⟩) (len - i) (cap - i)) (l.drop i) := by
  by_cases hc : cap = i
  · rw [if_pos hc]
    obtain ⟨h0, a', cap', hv, hc2, hm, -⟩ := h
    simp only [Value.slice.injEq] at hv
    obtain ⟨-, rfl, rfl⟩ := hv
    obtain rfl : i = l.length := by omega
    rw [List.drop_length, Nat.sub_self]
    exact ⟨inI64_nil, _, _, rfl, by simp, by unfold maxLen at hm ⊢; omega, .inl rfl⟩
  · rw [if_neg hc]; exact h.dropE hi

theorem some_of_if {c : Prop} [Decidable c] (a b : Addr) : ∃ ad, (if c then some a else some b) = some ad := by split <;> exact ⟨_, rfl⟩

set_option maxHeartbeats 4000000 in
set_option maxRecDepth 100000 in
theorem specSorted (v : Value) (l : List Int) (w : World) (h : Ints w v l) (hl : l.length ≤ 1048576) :
    Calls Try.prog 41 #[v] w (GetsI w.heap.size w (sortL l)) := by
  obtain ⟨i0, hi, hz0, hz1', hz2⟩ := info_parts infoInt
  obtain ⟨a, cap, rfl, -, -⟩ := h.form
  have HI := Lib.hid h
  have HO0 := Lib.hid (OwnI.none0R (B := w.heap.size) (w := w) (Nat.le_refl _))
  have hb0 : Below w.heap.size w (w.alloc (.cells #[] 3)) := (Below.refl _ w).alloc (Nat.le_refl _) _
  clear h
  go_enter Try.func41, Try.ntmps41
  go_wp2
  go_loopw [3, 4, 5] (fun s x _ wr => ∃ i : Nat, i ≤ l.length ∧ x = .int .i64 i ∧ s ≠ .slice none 0 0 ∧ Hid (OwnI w.heap.size wr s (sortL (l.take i))) ∧ Below w.heap.size w wr) (fun _ x _ _ => l.length - (intOf x).toNat)
  case atStart => exact ⟨0, by omega, rfl, by simp, Lib.hid (show OwnI w.heap.size _ _ (sortL (l.take 0)) from by simpa [sortL] using HO0.out), hb0⟩
  case round =>
    clear HO0 hb0
    obtain ⟨i, hile, rfl, hne, HO, hbel⟩ := hrel
    have HBL := Lib.hid hbel
    have hz : w.heap.size ≤ wr.heap.size := hbel.size
    clear hbel
    obtain ⟨S, hS⟩ : ∃ S, S = sortL (l.take i) := ⟨_, rfl⟩
    have hSi : S.length = i := by rw [hS, sortL_length, List.length_take]; omega
    rw [← hS] at HO
    rcases HO.out.form with ⟨hs, -⟩ | ⟨g, cp9, hs, hg1, hg2, hg3, hg4, hg5, -⟩
    · exact absurd hs hne
    subst hs
    have HSS := Lib.hid hS
    have HG5 := Lib.hid hg5
    rw [hSi] at HO hg3 ⊢
    unfold maxLen at hg4
    clear hS hg5 hne
    by_cases hlt : i < l.length
    · obtain ⟨b2, off2, capl', hv, hc2, hmx2, hbk2, hcell2⟩ := HI.out.pos (by omega)
      simp only [Value.slice.injEq] at hv
      obtain ⟨rfl, -, rfl⟩ := hv
      obtain ⟨x, hx⟩ : ∃ x, x = nth l i := ⟨_, rfl⟩
      have hxb : -9223372036854775808 ≤ x ∧ x ≤ 9223372036854775807 := by
        rw [hx]
        exact HI.out.1 _ (by unfold nth List.getD; rw [List.getElem?_eq_getElem (by omega)]; exact List.getElem_mem _)
      have c0 := (HBL.out.cell (p := ⟨b2, off2 + i, none⟩) hbk2).trans (hcell2 i hlt)
      rw [← hx] at c0
      have HTK := Lib.hid (show sortL (l.take i ++ [x]) = sortL (l.take (i + 1)) by
        rw [List.take_succ_eq_append_getElem hlt, hx]
        simp [nth, List.getD, List.getElem?_eq_getElem hlt])
      unfold maxLen at hmx2
      have HSX : Hid (∀ W, Below wr.heap.size wr W → ∀ k, k ≤ i → Ints W (.slice (some ⟨g, 0, none⟩) k cp9) (S.take k) ∧ Ints W (.slice (if cp9 = k then some ⟨g, 0, none⟩ else some ⟨g, k, none⟩) (i - k) (cp9 - k)) (S.drop k) ∧ W.cell? ⟨b2, off2 + i, none⟩ = some (.int .i64 x)) := fun W hW k hk =>
        ⟨(HO.out.on hW).ints.take (by omega), (HO.out.on hW).ints.dropF (by omega), (hW.cell (p := ⟨b2, off2 + i, none⟩) (by show b2 < wr.heap.size; omega)).trans c0⟩
      clear hcell2 hx
      obtain ⟨wo, rfl⟩ : ∃ wo, wo = wr := ⟨_, rfl⟩
      go_wp2
      go_loopw [5] (fun c w2 => ∃ k : Nat, k ≤ i ∧ c = .int .i64 k ∧ Hid (∀ j, k ≤ j → j < i → x ≤ nth S j) ∧ Below wo.heap.size wo w2) (fun c _ => (intOf c).toNat)
      case atStart => exact ⟨i, by omega, rfl, fun j h1 h2 => absurd h2 (by omega), Below.refl _ _⟩
      case round =>
        obtain ⟨k, hki, rfl, HJ2, hb2⟩ := hrel
        have HB2 := Lib.hid hb2
        have hzz : wo.heap.size ≤ wr.heap.size := hb2.size
        have hx0 : ∀ X : Since wr, X.val.cell? ⟨b2, off2 + i, none⟩ = some (.int .i64 x) := fun X => (HSX.out _ (hb2.trans (X.prop.mono hzz)) k hki).2.2
        clear hb2 c0
        by_cases hk0 : k = 0
        · have d0 : decide ((0 : Int) < (k : Int)) = false := decide_eq_false (by omega)
          have d0' : decide (0 < k) = false := decide_eq_false (by omega)
          have HK0 := Lib.hid hk0
          clear hk0
          go_wp2
          refine wp_region_since (by kernel_rfl) (by kernel_rfl) ?_
          repeat (go_big_quiet_step (fail))
          refine wpQuiet_nil ?_
          intro X
          obtain ⟨W, hW⟩ : ∃ W, W = X.val := ⟨_, rfl⟩
          have HW := Lib.hid (show Below wo.heap.size wo W by rw [hW]; exact HB2.out.trans (X.prop.mono hzz))
          rw [← hW]
          have HFIN := Lib.hid (show S.take k ++ [x] ++ S.drop k = sortL (l.take (i + 1)) by
            have h1 := sorted_ins (l := l.take i) (s := S) (x := x) (k := k) HSS.out (by omega) (fun j hj => absurd hj (by rw [HK0.out]; omega)) (fun j hj hj2 => HJ2.out j hj (by omega))
            rw [h1, HTK.out])
          have HSW : Hid (∀ Z, Below W.heap.size W Z → Ints Z (.slice (some ⟨g, 0, none⟩) k cp9) (S.take k) ∧ Ints Z (.slice (if cp9 = k then some ⟨g, 0, none⟩ else some ⟨g, k, none⟩) (i - k) (cp9 - k)) (S.drop k) ∧ Z.cell? ⟨b2, off2 + i, none⟩ = some (.int .i64 x)) := fun Z hZ => HSX.out Z (HW.out.trans (hZ.mono HW.out.size)) _ hki
          have hcW := (HSW.out _ (Below.refl _ _)).2.2
          have HTL := Lib.hid (show (S.take k).length = k by rw [List.length_take]; omega)
          have HN1 : Hid (Value.slice (some ⟨g, 0, none⟩) k cp9 = .slice none 0 0 ∨ ∃ ad cap, Value.slice (some ⟨g, 0, none⟩) k cp9 = .slice (some ad) (S.take k).length cap) := .inr ⟨_, _, by rw [HTL.out]⟩
          have HN3 : Hid (Value.slice (if cp9 = k then some ⟨g, 0, none⟩ else some ⟨g, k, none⟩) (i - k) (cp9 - k) = .slice none 0 0 ∨ ∃ ad cap, Value.slice (if cp9 = k then some ⟨g, 0, none⟩ else some ⟨g, k, none⟩) (i - k) (cp9 - k) = .slice (some ad) (S.drop k).length cap) := by
            obtain ⟨ad, had⟩ := some_of_if (c := cp9 = k) ⟨g, 0, none⟩ ⟨g, k, none⟩
            exact .inr ⟨ad, _, by rw [List.length_drop, hSi, had]⟩
          have HL1 := Lib.hid (show ([] : List Int).length + (S.take k).length ≤ 1000000000 by rw [HTL.out]; simp; omega)
          have HL2 := Lib.hid (show (S.take k).length + [x].length ≤ 1000000000 by rw [HTL.out]; simp; omega)
          have HL3 := Lib.hid (show (S.take k ++ [x]).length + (S.drop k).length ≤ 1000000000 by rw [List.length_append, HTL.out, List.length_drop]; simp; omega)
          have hkc : (k : Int) ≤ (cp9 : Int) := by omega
          have hk9 : (0 : Int) ≤ (k : Int) := by omega
          have hki9 : (k : Int) ≤ (i : Int) := by omega
          have hkn : k ≤ cp9 := by omega
          have HE1 : Hid (OwnI W.heap.size (W.alloc (.cells #[] 3)).drew (.slice (some ⟨W.heap.size, 0, none⟩) 0 0) []) := OwnI.none0R (w := W) (Nat.le_refl _)
          have HA1 : Hid (Below W.heap.size W (W.alloc (.cells #[] 3)).drew) := ((Below.refl _ W).alloc (Nat.le_refl _) _).drew
          have HE2 : Hid (OwnI W.heap.size ((W.alloc (.cells #[] 3)).alloc (.cells #[.int .i64 x] 3)).drew (.slice (some ⟨W.heap.size, 0, none⟩) 0 0) []) := (OwnI.none0R (w := W) (Nat.le_refl _)).alloc _
          have HA2 : Hid (Below W.heap.size W ((W.alloc (.cells #[] 3)).alloc (.cells #[.int .i64 x] 3)).drew) := (((Below.refl _ W).alloc (Nat.le_refl _) _).alloc (by simp) _).drew
          have HX2 : Hid (OwnI W.heap.size ((W.alloc (.cells #[] 3)).alloc (.cells #[.int .i64 x] 3)).drew (.slice (some ⟨W.heap.size + 1, 0, none⟩) 1 1) [x]) := by
            have h1 := OwnI.single (B := W.heap.size) (w := W.alloc (.cells #[] 3)) (x := x) (by simp) hxb.1 hxb.2
            rw [World.size_alloc] at h1
            exact h1
          have HE3 : Hid (OwnI W.heap.size ((W.alloc (.cells #[.int .i64 x] 3)).alloc (.cells #[] 3)).drew (.slice (some ⟨W.heap.size + 1, 0, none⟩) 0 0) []) := by
            have h1 := OwnI.none0R (B := W.heap.size) (w := W.alloc (.cells #[.int .i64 x] 3)) (by simp)
            rw [World.size_alloc] at h1
            exact h1
          have HA3 : Hid (Below W.heap.size W ((W.alloc (.cells #[.int .i64 x] 3)).alloc (.cells #[] 3)).drew) := (((Below.refl _ W).alloc (Nat.le_refl _) _).alloc (by simp) _).drew
          have HX3 : Hid (OwnI W.heap.size ((W.alloc (.cells #[.int .i64 x] 3)).alloc (.cells #[] 3)).drew (.slice (some ⟨W.heap.size, 0, none⟩) 1 1) [x]) := (OwnI.single (B := W.heap.size) (w := W) (x := x) (Nat.le_refl _) hxb.1 hxb.2).alloc _
          clear hW hx0 
          go_wp2_with fail
          go_region_held3 (fun w' => w'.cell? ⟨b2, off2 + i, none⟩ = some (.int .i64 x)) (first | go_keep | exact (HSW.out _ HB3.out).2.2 | exact (HSW.out _ HB2'.out).2.2 | exact (HSW.out _ HB1.out).2.2)
            (first
              | (refine step_append_ints (by rfl) (.tmp 31) (.tmp 34) 22 (by rfl) W.heap.size i0 Try.underlying22 hi hz0 hz1' hz2 _ [] (by rfl) (by first | exact HE1.out | exact HE2.out | exact HE3.out) _ (S.take k) (by rfl) (by first | exact (HSW.out _ HA1.out).1 | exact (HSW.out _ HA2.out).1 | exact (HSW.out _ HA3.out).1) HN1.out HL1.out (by simp <;> omega) ?_
                 intro v1 w1 ho1 hg1 hn1
                 have HO1 := Lib.hid (show OwnI W.heap.size w1 v1 (S.take k) from ho1)
                 have HNN1 := Lib.hid (hn1 (by show Value.slice (some _) _ _ ≠ _; simp))
                 have HB1 := Lib.hid (show Below W.heap.size W w1 from (by first | exact HA1.out.grown hg1 (by simp <;> omega) (fun q hq => (HE1.out.lt q hq).1) | exact HA2.out.grown hg1 (by simp <;> omega) (fun q hq => (HE2.out.lt q hq).1) | exact HA3.out.grown hg1 (by simp <;> omega) (fun q hq => (HE3.out.lt q hq).1)))
                 first
                   | have HX1 := Lib.hid (HX2.out.kept hg1 (.inr (by show some (W.heap.size + 1) ≠ some W.heap.size; simp)))
                   | have HX1 := Lib.hid (HX3.out.kept hg1 (.inr (by show some W.heap.size ≠ some (W.heap.size + 1); simp)))
                   | skip
                 have hz1 : W.heap.size ≤ w1.heap.size := HB1.out.size
                 clear ho1 hg1 hn1)
              | (refine step_append_ints (by rfl) (.tmp 35) (.tmp 40) 22 (by rfl) W.heap.size i0 Try.underlying22 hi hz0 hz1' hz2 _ (S.take k) (by rfl) (by first | exact HO1.out | exact HO1.out.alloc _) _ [x] (by rfl) (by first | exact HX1.out.ints | exact (OwnI.single (B := W.heap.size) hz1 hxb.1 hxb.2).ints) (.inr ⟨_, _, rfl⟩) HL2.out (by first | exact hz1 | (simp; omega)) ?_
                 intro v2 w2 ho2 hg2 hn2
                 have HO2 := Lib.hid ho2
                 have HNN2 := Lib.hid (hn2 HNN1.out)
                 have HB2' := Lib.hid (show Below W.heap.size W w2 from (by first | exact HB1.out.grown hg2 hz1 (fun q hq => (HO1.out.lt q hq).1) | exact (HB1.out.alloc hz1 _).grown hg2 (by simp <;> omega) (fun q hq => (HO1.out.lt q hq).1)))
                 have hz2'' : W.heap.size ≤ w2.heap.size := HB2'.out.size
                 clear ho2 hg2 hn2)
              | (refine step_append_ints (by rfl) (.tmp 41) (.tmp 44) 22 (by rfl) W.heap.size i0 Try.underlying22 hi hz0 hz1' hz2 _ (S.take k ++ [x]) (by rfl) HO2.out _ (S.drop k) (by rfl) (HSW.out _ HB2'.out).2.1 HN3.out HL3.out hz2'' ?_
                 intro v3 w3 ho3 hg3 hn3
                 have HO3 := Lib.hid (show OwnI W.heap.size w3 v3 (sortL (l.take (i + 1))) by rw [← HFIN.out]; exact ho3)
                 have HNN3 := Lib.hid (hn3 HNN2.out)
                 have HB3 := Lib.hid (HB2'.out.grown hg3 hz2'' (fun q hq => (HO2.out.lt q hq).1))
                 clear ho3 hg3 hn3))
          all_goals
            go_wp2
            go_roundw
            case rel => exact ⟨i + 1, by omega, by go_num, HNN3.out, HO3.out.mono (by have := HW.out.size; omega), HBL.out.trans ((HW.out.trans (HB3.out.mono HW.out.size)).mono hz)⟩
            case measure => simp [intOf]; omega
        · have d0 : decide ((0 : Int) < (k : Int)) = true := decide_eq_true (by omega)
          obtain ⟨y, hy⟩ : ∃ y, y = nth S (k - 1) := ⟨_, rfl⟩
          obtain ⟨k', rfl⟩ : ∃ k', k = k' + 1 := ⟨k - 1, by omega⟩
          have hx1 : ∀ X : Since wr, X.val.cell? ⟨g, k', none⟩ = some (.int .i64 y) := fun X => by
            have h1 := (HO.out.on (HB2.out.trans (X.prop.mono hzz)))
            have h2 := h1.form
            rcases h2 with ⟨h3, -⟩ | ⟨g', cp', h3, -, -, -, -, h4, -⟩
            · cases h3
            · have h5 := h4 k' (by omega)
              simp only [Value.slice.injEq] at h3
              obtain ⟨h6, -, -⟩ := h3
              cases h6
              rw [hy]
              exact h5
          have HY := Lib.hid hy
          have hk1 : (((k' + 1 : Nat) : Int) - 1) = (k' : Int) := by omega
          have hk2 : ((k' : Int) + 1 - 1) = (k' : Int) := by omega
          clear hy
          by_cases hgt : x < y
          · have d1 : decide (x < y) = true := decide_eq_true hgt
            go_wp2
            refine wp_region_since (by kernel_rfl) (by kernel_rfl) ?_
            repeat (go_big_quiet_step (fail))
            refine wpQuiet_nil ?_
            intro X
            have HW := Lib.hid (HB2.out.trans (X.prop.mono hzz))
            have HJ3 : Hid (∀ j, k' ≤ j → j < i → x ≤ nth S j) := fun j h1 h2 => by
              rcases Nat.lt_or_ge k' j with h | h
              · exact HJ2.out j (by omega) h2
              · obtain rfl : j = k' := by omega
                have := HY.out
                simp at this
                omega
            clear hx0 hx1
            go_wp2
            go_roundw
            case rel => exact ⟨k', by omega, by go_num, HJ3.out, HW.out⟩
            case measure => simp [intOf] <;> omega
          · have d1 : decide (x < y) = false := decide_eq_false hgt
            go_wp2
            refine wp_region_since (by kernel_rfl) (by kernel_rfl) ?_
            repeat (go_big_quiet_step (fail))
            refine wpQuiet_nil ?_
            intro X
            have HLO : Hid (∀ j, j < k' + 1 → nth S j ≤ x) := fun j hj => by
              have h1 : nth S j ≤ nth S k' := by
                rw [HSS.out]
                exact sortL_mono (by omega) (by rw [List.length_take]; omega)
              have h2 := HY.out
              simp at h2
              omega
            obtain ⟨k, hk⟩ : ∃ k, k = k' + 1 := ⟨_, rfl⟩
            have hkk : ((k' : Int) + 1) = (k : Int) := by omega
            have hkk2 : ((k' + 1 : Nat) : Int) = (k : Int) := by omega
            rw [← hk] at hki HJ2 HLO
            try rw [hkk]
            try rw [hkk2]
            clear hkk hkk2 hk hk1 hk2 hx1 d0 hk0 d1 HY
            obtain ⟨W, hW⟩ : ∃ W, W = X.val := ⟨_, rfl⟩
            have HW := Lib.hid (show Below wo.heap.size wo W by rw [hW]; exact HB2.out.trans (X.prop.mono hzz))
            rw [← hW]
            have HFIN := Lib.hid (show S.take k ++ [x] ++ S.drop k = sortL (l.take (i + 1)) by
              have h1 := sorted_ins (l := l.take i) (s := S) (x := x) (k := k) HSS.out (by omega) HLO.out (fun j hj hj2 => HJ2.out j hj (by omega))
              rw [h1, HTK.out])
            have HSW : Hid (∀ Z, Below W.heap.size W Z → Ints Z (.slice (some ⟨g, 0, none⟩) k cp9) (S.take k) ∧ Ints Z (.slice (if cp9 = k then some ⟨g, 0, none⟩ else some ⟨g, k, none⟩) (i - k) (cp9 - k)) (S.drop k) ∧ Z.cell? ⟨b2, off2 + i, none⟩ = some (.int .i64 x)) := fun Z hZ => HSX.out Z (HW.out.trans (hZ.mono HW.out.size)) _ hki
            have hcW := (HSW.out _ (Below.refl _ _)).2.2
            have HTL := Lib.hid (show (S.take k).length = k by rw [List.length_take]; omega)
            have HN1 : Hid (Value.slice (some ⟨g, 0, none⟩) k cp9 = .slice none 0 0 ∨ ∃ ad cap, Value.slice (some ⟨g, 0, none⟩) k cp9 = .slice (some ad) (S.take k).length cap) := .inr ⟨_, _, by rw [HTL.out]⟩
            have HN3 : Hid (Value.slice (if cp9 = k then some ⟨g, 0, none⟩ else some ⟨g, k, none⟩) (i - k) (cp9 - k) = .slice none 0 0 ∨ ∃ ad cap, Value.slice (if cp9 = k then some ⟨g, 0, none⟩ else some ⟨g, k, none⟩) (i - k) (cp9 - k) = .slice (some ad) (S.drop k).length cap) := by
              obtain ⟨ad, had⟩ := some_of_if (c := cp9 = k) ⟨g, 0, none⟩ ⟨g, k, none⟩
              exact .inr ⟨ad, _, by rw [List.length_drop, hSi, had]⟩
            have HL1 := Lib.hid (show ([] : List Int).length + (S.take k).length ≤ 1000000000 by rw [HTL.out]; simp; omega)
            have HL2 := Lib.hid (show (S.take k).length + [x].length ≤ 1000000000 by rw [HTL.out]; simp; omega)
            have HL3 := Lib.hid (show (S.take k ++ [x]).length + (S.drop k).length ≤ 1000000000 by rw [List.length_append, HTL.out, List.length_drop]; simp; omega)
            have hkc : (k : Int) ≤ (cp9 : Int) := by omega
            have hk9 : (0 : Int) ≤ (k : Int) := by omega
            have hki9 : (k : Int) ≤ (i : Int) := by omega
            have hkn : k ≤ cp9 := by omega
            have HE1 : Hid (OwnI W.heap.size (W.alloc (.cells #[] 3)).drew (.slice (some ⟨W.heap.size, 0, none⟩) 0 0) []) := OwnI.none0R (w := W) (Nat.le_refl _)
            have HA1 : Hid (Below W.heap.size W (W.alloc (.cells #[] 3)).drew) := ((Below.refl _ W).alloc (Nat.le_refl _) _).drew
            have HE2 : Hid (OwnI W.heap.size ((W.alloc (.cells #[] 3)).alloc (.cells #[.int .i64 x] 3)).drew (.slice (some ⟨W.heap.size, 0, none⟩) 0 0) []) := (OwnI.none0R (w := W) (Nat.le_refl _)).alloc _
            have HA2 : Hid (Below W.heap.size W ((W.alloc (.cells #[] 3)).alloc (.cells #[.int .i64 x] 3)).drew) := (((Below.refl _ W).alloc (Nat.le_refl _) _).alloc (by simp) _).drew
            have HX2 : Hid (OwnI W.heap.size ((W.alloc (.cells #[] 3)).alloc (.cells #[.int .i64 x] 3)).drew (.slice (some ⟨W.heap.size + 1, 0, none⟩) 1 1) [x]) := by
              have h1 := OwnI.single (B := W.heap.size) (w := W.alloc (.cells #[] 3)) (x := x) (by simp) hxb.1 hxb.2
              rw [World.size_alloc] at h1
              exact h1
            have HE3 : Hid (OwnI W.heap.size ((W.alloc (.cells #[.int .i64 x] 3)).alloc (.cells #[] 3)).drew (.slice (some ⟨W.heap.size + 1, 0, none⟩) 0 0) []) := by
              have h1 := OwnI.none0R (B := W.heap.size) (w := W.alloc (.cells #[.int .i64 x] 3)) (by simp)
              rw [World.size_alloc] at h1
              exact h1
            have HA3 : Hid (Below W.heap.size W ((W.alloc (.cells #[.int .i64 x] 3)).alloc (.cells #[] 3)).drew) := (((Below.refl _ W).alloc (Nat.le_refl _) _).alloc (by simp) _).drew
            have HX3 : Hid (OwnI W.heap.size ((W.alloc (.cells #[.int .i64 x] 3)).alloc (.cells #[] 3)).drew (.slice (some ⟨W.heap.size, 0, none⟩) 1 1) [x]) := (OwnI.single (B := W.heap.size) (w := W) (x := x) (Nat.le_refl _) hxb.1 hxb.2).alloc _
            clear hW hx0 
            go_wp2_with fail
            go_region_held3 (fun w' => w'.cell? ⟨b2, off2 + i, none⟩ = some (.int .i64 x)) (first | go_keep | exact (HSW.out _ HB3.out).2.2 | exact (HSW.out _ HB2'.out).2.2 | exact (HSW.out _ HB1.out).2.2)
              (first
                | (refine step_append_ints (by rfl) (.tmp 31) (.tmp 34) 22 (by rfl) W.heap.size i0 Try.underlying22 hi hz0 hz1' hz2 _ [] (by rfl) (by first | exact HE1.out | exact HE2.out | exact HE3.out) _ (S.take k) (by rfl) (by first | exact (HSW.out _ HA1.out).1 | exact (HSW.out _ HA2.out).1 | exact (HSW.out _ HA3.out).1) HN1.out HL1.out (by simp <;> omega) ?_
                   intro v1 w1 ho1 hg1 hn1
                   have HO1 := Lib.hid (show OwnI W.heap.size w1 v1 (S.take k) from ho1)
                   have HNN1 := Lib.hid (hn1 (by show Value.slice (some _) _ _ ≠ _; simp))
                   have HB1 := Lib.hid (show Below W.heap.size W w1 from (by first | exact HA1.out.grown hg1 (by simp <;> omega) (fun q hq => (HE1.out.lt q hq).1) | exact HA2.out.grown hg1 (by simp <;> omega) (fun q hq => (HE2.out.lt q hq).1) | exact HA3.out.grown hg1 (by simp <;> omega) (fun q hq => (HE3.out.lt q hq).1)))
                   first
                     | have HX1 := Lib.hid (HX2.out.kept hg1 (.inr (by show some (W.heap.size + 1) ≠ some W.heap.size; simp)))
                     | have HX1 := Lib.hid (HX3.out.kept hg1 (.inr (by show some W.heap.size ≠ some (W.heap.size + 1); simp)))
                     | skip
                   have hz1 : W.heap.size ≤ w1.heap.size := HB1.out.size
                   clear ho1 hg1 hn1)
                | (refine step_append_ints (by rfl) (.tmp 35) (.tmp 40) 22 (by rfl) W.heap.size i0 Try.underlying22 hi hz0 hz1' hz2 _ (S.take k) (by rfl) (by first | exact HO1.out | exact HO1.out.alloc _) _ [x] (by rfl) (by first | exact HX1.out.ints | exact (OwnI.single (B := W.heap.size) hz1 hxb.1 hxb.2).ints) (.inr ⟨_, _, rfl⟩) HL2.out (by first | exact hz1 | (simp; omega)) ?_
                   intro v2 w2 ho2 hg2 hn2
                   have HO2 := Lib.hid ho2
                   have HNN2 := Lib.hid (hn2 HNN1.out)
                   have HB2' := Lib.hid (show Below W.heap.size W w2 from (by first | exact HB1.out.grown hg2 hz1 (fun q hq => (HO1.out.lt q hq).1) | exact (HB1.out.alloc hz1 _).grown hg2 (by simp <;> omega) (fun q hq => (HO1.out.lt q hq).1)))
                   have hz2'' : W.heap.size ≤ w2.heap.size := HB2'.out.size
                   clear ho2 hg2 hn2)
                | (refine step_append_ints (by rfl) (.tmp 41) (.tmp 44) 22 (by rfl) W.heap.size i0 Try.underlying22 hi hz0 hz1' hz2 _ (S.take k ++ [x]) (by rfl) HO2.out _ (S.drop k) (by rfl) (HSW.out _ HB2'.out).2.1 HN3.out HL3.out hz2'' ?_
                   intro v3 w3 ho3 hg3 hn3
                   have HO3 := Lib.hid (show OwnI W.heap.size w3 v3 (sortL (l.take (i + 1))) by rw [← HFIN.out]; exact ho3)
                   have HNN3 := Lib.hid (hn3 HNN2.out)
                   have HB3 := Lib.hid (HB2'.out.grown hg3 hz2'' (fun q hq => (HO2.out.lt q hq).1))
                   clear ho3 hg3 hn3))
            all_goals
              go_wp2
              go_roundw
              case rel => exact ⟨i + 1, by omega, by go_num, HNN3.out, HO3.out.mono (by have := HW.out.size; omega), HBL.out.trans ((HW.out.trans (HB3.out.mono HW.out.size)).mono hz)⟩
              case measure => simp [intOf]; omega
    · obtain rfl : i = l.length := by omega
      have HF := Lib.hid (show S = sortL l by rw [HSS.out, List.take_of_length_le (Nat.le_refl _)])
      go_wp2
      go_ret
      exact ⟨_, rfl, by rw [← HF.out]; exact HO.out, HBL.out⟩

end Go.Proofs.Ytpifgmmmmhenmab
