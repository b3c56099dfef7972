/- IsCliqueOrder. -/
import Derived.Test.YtpifgmmmmhenmabCl
import Derived.Test.YtpifgmmmmhenmabMs
import Derived.Test.YtpifgmmmmhenmabMv
import Derived.Test.YtpifgmmmmhenmabFp
import Derived.Test.YtpifgmmmmhenmabGe
import Derived.Test.YtpifgmmmmhenmabY1
import Derived.Test.YtpifgmmmmhenmabTs
import Derived.Deep.RegionWith
namespace Go.Proofs.Ytpifgmmmmhenmab
set_option linter.unusedVariables false
set_option linter.unusedSimpArgs false
open Go.RowKit Go.Shelf

def CqoP (n : Int) (lg l : List Int) : Prop := IsG n lg ∧ sortL l = maxR n lg ∧ OnceB (begL l) l.length

instance (n : Int) (lg l : List Int) : Decidable (CqoP n lg l) := by unfold CqoP; infer_instance

theorem max_sets {n : Int} {lg l : List Int} (hg : IsG n lg) (h : sortL l = maxR n lg) : Sets7 l := fun x hx => by
  have h1 : x ∈ sortL l := (sortL_perm l).mem_iff.2 hx
  rw [h] at h1
  unfold maxR at h1
  rw [if_pos hg] at h1
  have h2 := (maxK_sorted n lg (2 ^ lg.length)).2.1 x h1
  have h7 : lg.length ≤ 7 := by have := hg.2.1; have := hg.2.2.1; omega
  have h3 := two_le _ h7
  unfold maxK at h1
  obtain ⟨y, -, rfl⟩ := List.mem_map.1 h1
  omega

theorem maxR_fam (n : Int) (lg : List Int) : famR n lg (maxB n lg) = maxR n lg := by
  unfold famR maxR
  rfl

set_option maxHeartbeats 2000000 in
set_option maxRecDepth 100000 in
theorem implCqo (n : Int) (v u : Value) (lg l : List Int) (w : World) (h : Ints w v lg) (hl : Ints w u l) (hnil : u = .slice none 0 0 ∨ ∃ ad cap, u = .slice (some ad) l.length cap) (hlen : l.length ≤ 1048576) :
    Calls Try.prog 22 #[.agg #[.int .i64 n, v], u] w (SaysB (CqoP n lg l) w) := by
  obtain ⟨a, cap, rfl, -, -⟩ := h.form
  have HA := argG' (T := 27) (n := n) h
  have HL := Lib.hid hl
  have HNI := Lib.hid hnil
  clear h hl hnil
  go_enter Try.func22, Try.ntmps22
  go_wp2_with fail
  refine (slicesClone9 u l _ (HL.out.alloc _) HNI.out hlen).mono ?_
  rintro e w1 ⟨v1, rfl, ho, hb⟩
  have HB := Lib.hid (hb.mono (B' := w.heap.size + 1) (by simp))
  have HO := Lib.hid (show OwnI (w.heap.size + 1) w1 v1 l from ho.mono (by simp))
  clear hb ho
  go_wp2_with fail
  refine (sortOwn HO.out hlen).mono ?_
  rintro e w2 ⟨rfl, ho, hg⟩
  have HO2 := Lib.hid ho
  have HB2 := Lib.hid (HB.out.grown hg (by have := HB.out.size; simpa using this) (fun k hk => (HO.out.lt k hk).1))
  clear ho hg HO HB
  obtain ⟨c0, c1, cI, cB, hz⟩ := HA.out _ HB2.out
  have HCI := Lib.hid cI
  have HCB := Lib.hid cB
  clear cI cB
  go_wp2_with fail
  refine (implIsG_any n _ lg _ HCI.out).mono ?_
  rintro e w3 ⟨r, rfl, hr, hb⟩
  have HB3 := Lib.hid (HB2.out.trans (hb.mono hz))
  have HO3 := Lib.hid (HO2.out.on hb)
  clear hb c0 c1 hz HCI HCB HO2
  obtain ⟨c0, c1, cI, cB, hz⟩ := HA.out _ HB3.out
  have HCI := Lib.hid cI
  have HCB := Lib.hid cB
  clear cI cB
  cases r with
  | false =>
    have HN := Lib.hid (show ¬ CqoP n lg l from fun h => absurd (hr.2 h.1) (by decide))
    clear hr
    go_wp2
    go_ret
    exact SaysB.no HN.out HCB.out
  | true =>
    have HG := Lib.hid (hr.1 rfl)
    clear hr
    go_wp2_with fail
    refine (implMax n _ lg _ HCI.out).mono ?_
    rintro e w4 ⟨vm, rfl, hom, hb⟩
    have HB4 := Lib.hid (HB3.out.trans (hb.mono hz))
    have HO4 := Lib.hid (HO3.out.on hb)
    have HM := Lib.hid hom
    clear hb hom c0 c1 hz HCI HCB HO3
    go_wp2_with fail
    refine (slicesEqual_any v1 vm _ _ _ HO4.out.ints HM.out.ints (by rw [sortL_length]; omega) (by have := maxR_length n lg; omega)).mono ?_
    rintro e w5 ⟨r, rfl, hr, hb⟩
    have hz4 : w.heap.size + 1 ≤ w4.heap.size := by have := HB4.out.size; simpa using this
    have HB5 := Lib.hid (HB4.out.trans (hb.mono hz4))
    clear hb HO4 HM
    obtain ⟨c0, c1, cI, cB, hz⟩ := HA.out _ HB5.out
    have HCB := Lib.hid cB
    clear cI cB
    cases r with
    | false =>
      have HN := Lib.hid (show ¬ CqoP n lg l from fun h => absurd (hr.2 h.2.1) (by decide))
      clear hr
      go_wp2
      go_ret
      exact SaysB.no HN.out HCB.out
    | true =>
      have HE := Lib.hid (hr.1 rfl)
      clear hr
      go_wp2_with fail
      refine (follow_is u l _ (HL.out.on HCB.out) (max_sets HG.out HE.out) hlen).mono ?_
      rintro e w6 ⟨r, rfl, hr, hb⟩
      have HB6 := Lib.hid (HCB.out.trans (hb.mono HCB.out.size))
      have HN := Lib.hid (show r = true ↔ CqoP n lg l from ⟨fun h => ⟨HG.out, HE.out, hr.1 h⟩, fun h => hr.2 h.2.2⟩)
      clear hr hb
      go_wp2
      go_ret
      exact ⟨r, by first | rfl | (cases r <;> rfl), HN.out, HB6.out⟩

set_option maxHeartbeats 2000000 in
set_option maxRecDepth 100000 in
theorem specCqo (n : Int) (v u : Value) (lg l : List Int) (w : World) (h : Ints w v lg) (hl : Ints w u l) (hlen : l.length ≤ 1048576) :
    Calls Try.prog 20 #[.agg #[.int .i64 n, v], u] w (SaysB (CqoP n lg l) w) := by
  obtain ⟨a, cap, rfl, -, -⟩ := h.form
  have HA := argG' (T := 27) (n := n) h
  have HL := Lib.hid hl
  obtain ⟨w0, hw0⟩ : ∃ w0, w0 = w.alloc (.cells #[.int .i64 n, .slice a lg.length cap] 27) := ⟨_, rfl⟩
  have HZ0 := Lib.hid (show w.heap.size + 1 ≤ w0.heap.size by rw [hw0]; simp)
  have HX : Hid (∀ W, Below (w.heap.size + 1) w0 W → W.cell? ⟨w.heap.size, 0, none⟩ = some (.int .i64 n) ∧ W.cell? ⟨w.heap.size, 1, none⟩ = some (.slice a lg.length cap) ∧ w.heap.size + 1 ≤ W.heap.size) := fun W hW => by
    obtain ⟨d0, d1, -, -, dz⟩ := HA.out _ (by rw [hw0] at hW; exact hW)
    exact ⟨d0, d1, dz⟩
  have HF : Hid (∀ W, Below (w.heap.size + 1) w0 W → Ints W (.slice a lg.length cap) lg ∧ Below w.heap.size w W) := fun W hW => by
    obtain ⟨-, -, dI, dB, -⟩ := HA.out _ (by rw [hw0] at hW; exact hW)
    exact ⟨dI, dB⟩
  clear h hl
  by_cases hg : IsG n lg
  · have CG : Hid (∀ W, Below (w.heap.size + 1) w0 W → Calls Try.prog 38 #[.agg #[.int .i64 n, .slice a lg.length cap]] W fun e w' => e = .returned (.bool true) ∧ Below W.heap.size W w') := fun W hW => (specIsG_any n _ lg W (HF.out W hW).1).mono fun e w' ⟨r, h1, h2, h3⟩ => ⟨by rw [h1, h2.2 hg], h3⟩
    have CS : Hid (∀ W, Below (w.heap.size + 1) w0 W → Calls Try.prog 41 #[u] W (GetsI W.heap.size W (sortL l))) := fun W hW => specSorted u l W (HL.out.on (HF.out W hW).2) hlen
    have CM : Hid (∀ W, Below (w.heap.size + 1) w0 W → Calls Try.prog 48 #[.agg #[.int .i64 n, .slice a lg.length cap]] W (GetsI W.heap.size W (maxR n lg))) := fun W hW => by
      rw [← maxR_fam]
      exact specMax n _ lg W (HF.out W hW).1
    have CE : Hid (∀ W v1 v2, Ints W v1 (sortL l) → Ints W v2 (maxR n lg) → Calls Try.prog 47 #[v1, v2] W (SaysB (sortL l = maxR n lg) W)) := fun W v1 v2 h1 h2 => specSame_any v1 v2 _ _ W h1 h2 (by rw [sortL_length]; omega) (by have := maxR_length n lg; omega)
    by_cases hE : sortL l = maxR n lg
    · have CF : Hid (∀ W, Below (w.heap.size + 1) w0 W → Calls Try.prog 49 #[u] W (SaysB (OnceB (begL l) l.length) W)) := fun W hW => consec_is u l W (HL.out.on (HF.out W hW).2) (max_sets hg hE) hlen
      have HN : Hid (OnceB (begL l) l.length ↔ CqoP n lg l) := ⟨fun h => ⟨hg, hE, h⟩, fun h => h.2.2⟩
      obtain ⟨L1, hL1⟩ : ∃ L, L = sortL l := ⟨_, rfl⟩
      obtain ⟨L2, hL2⟩ : ∃ L, L = maxR n lg := ⟨_, rfl⟩
      rw [← hL1, ← hL2] at CE hE
      rw [← hL1] at CS
      rw [← hL2] at CM
      clear hL1 hL2 hg HA
      go_enter Try.func20, Try.ntmps20
      go_wp2
      rw [← hw0]
      clear hw0
      obtain ⟨x0, x1, -⟩ := HX.out _ (Below.refl _ w0)
      go_region_with (first
      | (go_at_call 38; refine (CG.out _ (by first | exact Below.refl _ _ | exact (Below.refl _ _).drew)).mono ?_; rintro e w2 ⟨rfl, hb2⟩
         have HW2 := Lib.hid (show Below (w.heap.size + 1) w0 w2 from (by first | exact (Below.refl _ w0).trans (hb2.mono HZ0.out) | exact (Below.refl _ w0).drew.trans (hb2.mono HZ0.out)))
         obtain ⟨x0, x1, -⟩ := HX.out _ HW2.out
         clear hb2)
      | (go_at_call 41; refine (CS.out _ HW2.out).mono ?_; rintro e w3 ⟨v3, rfl, ho3, hb3⟩
         have HW3 := Lib.hid (HW2.out.trans (hb3.mono (HX.out _ HW2.out).2.2))
         have HO3 := Lib.hid ho3
         obtain ⟨y0, y1, -⟩ := HX.out _ HW3.out
         clear ho3 hb3)
      | (go_at_call 48; refine (CM.out _ HW3.out).mono ?_; rintro e w4 ⟨v4, rfl, ho4, hb4⟩
         have HW4 := Lib.hid (HW3.out.trans (hb4.mono (HX.out _ HW3.out).2.2))
         have HO4 := Lib.hid (HO3.out.on hb4)
         have HM4 := Lib.hid ho4
         clear ho4 hb4)
      | (go_at_call 47; refine (CE.out _ _ _ HO4.out.ints HM4.out.ints).mono ?_; rintro e w5 ⟨r, rfl, hr, hb5⟩
         have HW5 := Lib.hid (HW4.out.trans (hb5.mono (HX.out _ HW4.out).2.2))
         obtain rfl : r = true := hr.2 hE
         clear hr hb5)
      | (go_at_call 49; refine (CF.out _ HW5.out).mono ?_; rintro e w6 ⟨r, rfl, hr, hb6⟩
         have HR6 := Lib.hid hr
         have HW6 := Lib.hid (HW5.out.trans (hb6.mono (HX.out _ HW5.out).2.2))
         clear hr hb6))
      all_goals
        go_wp2
        go_ret
        exact ⟨r, by first | rfl | (cases r <;> rfl), ⟨fun h => HN.out.1 (HR6.out.1 h), fun h => HR6.out.2 (HN.out.2 h)⟩, (HF.out _ HW6.out).2⟩
    · have HN := Lib.hid (show ¬ CqoP n lg l from fun h => hE h.2.1)
      obtain ⟨L1, hL1⟩ : ∃ L, L = sortL l := ⟨_, rfl⟩
      obtain ⟨L2, hL2⟩ : ∃ L, L = maxR n lg := ⟨_, rfl⟩
      rw [← hL1, ← hL2] at CE hE
      rw [← hL1] at CS
      rw [← hL2] at CM
      clear hL1 hL2 hg HA
      go_enter Try.func20, Try.ntmps20
      go_wp2
      rw [← hw0]
      clear hw0
      obtain ⟨x0, x1, -⟩ := HX.out _ (Below.refl _ w0)
      first
        | (go_region_with (first
        | (go_at_call 38; refine (CG.out _ (by first | exact Below.refl _ _ | exact (Below.refl _ _).drew)).mono ?_; rintro e w2 ⟨rfl, hb2⟩
           have HW2 := Lib.hid (show Below (w.heap.size + 1) w0 w2 from (by first | exact (Below.refl _ w0).trans (hb2.mono HZ0.out) | exact (Below.refl _ w0).drew.trans (hb2.mono HZ0.out)))
           obtain ⟨x0, x1, -⟩ := HX.out _ HW2.out
           clear hb2)
        | (go_at_call 41; refine (CS.out _ HW2.out).mono ?_; rintro e w3 ⟨v3, rfl, ho3, hb3⟩
           have HW3 := Lib.hid (HW2.out.trans (hb3.mono (HX.out _ HW2.out).2.2))
           have HO3 := Lib.hid ho3
           obtain ⟨y0, y1, -⟩ := HX.out _ HW3.out
           clear ho3 hb3)
        | (go_at_call 48; refine (CM.out _ HW3.out).mono ?_; rintro e w4 ⟨v4, rfl, ho4, hb4⟩
           have HW4 := Lib.hid (HW3.out.trans (hb4.mono (HX.out _ HW3.out).2.2))
           have HO4 := Lib.hid (HO3.out.on hb4)
           have HM4 := Lib.hid ho4
           clear ho4 hb4)
        | (go_at_call 47; refine (CE.out _ _ _ HO4.out.ints HM4.out.ints).mono ?_; rintro e w5 ⟨r, rfl, hr, hb5⟩
           have HW5 := Lib.hid (HW4.out.trans (hb5.mono (HX.out _ HW4.out).2.2))
           obtain rfl : r = false := by cases r with | false => rfl | true => exact absurd (hr.1 rfl) hE
           clear hr hb5)))
        | fail
      all_goals
        go_wp2
        go_ret
        exact SaysB.no HN.out (HF.out _ HW5.out).2
  · have HN := Lib.hid (show ¬ CqoP n lg l from fun h => hg h.1)
    have HXX : Hid (∀ X : Since w0, Below (w.heap.size + 1) w0 X.val) := fun X => X.prop.mono HZ0.out
    have hx0 : ∀ X : Since w0, X.val.cell? ⟨w.heap.size, 0, none⟩ = some (.int .i64 n) := fun X => (HX.out _ (HXX.out X)).1
    have hx1 : ∀ X : Since w0, X.val.cell? ⟨w.heap.size, 1, none⟩ = some (.slice a lg.length cap) := fun X => (HX.out _ (HXX.out X)).2.1
    have HC : Hid (∀ X : Since w0, Calls Try.prog 38 #[.agg #[.int .i64 n, .slice a lg.length cap]] X.val fun e w' => e = .returned (.bool false) ∧ Below X.val.heap.size X.val w') := fun X => (specIsG_any n _ lg X.val (HF.out _ (HXX.out X)).1).mono fun e w' ⟨r, h1, h2, h3⟩ => ⟨by
      cases r with
      | false => exact h1
      | true => exact absurd (h2.1 rfl) hg, h3⟩
    clear hg HA
    go_enter Try.func20, Try.ntmps20
    go_wp2
    rw [← hw0]
    clear hw0
    refine wp_region_since (by kernel_rfl) (by kernel_rfl) ?_
    repeat (go_big_quiet_step (with_reducible exact since_call (HC.out _)))
    refine wpQuiet_nil ?_
    intro X
    have HXB := Lib.hid (HF.out _ (HXX.out X)).2
    clear hx0 hx1
    go_wp2
    go_ret
    exact SaysB.no HN.out HXB.out

end Go.Proofs.Ytpifgmmmmhenmab
