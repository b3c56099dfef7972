/- IsCliqueTree. -/
import Derived.Test.YtpifgmmmmhenmabHv
import Derived.Deep.RegionWith
namespace Go.Proofs.Ytpifgmmmmhenmab
set_option linter.unusedVariables false
set_option linter.unusedSimpArgs false
open Go.RowKit Go.Shelf

def CtP (n : Int) (lg l m : List Int) : Prop := IsG n lg ∧ TreeP l m ∧ sortL l = maxR n lg ∧ OnceB (begT l m) l.length

instance (n : Int) (lg l m : List Int) : Decidable (CtP n lg l m) := by unfold CtP; infer_instance

theorem TreeP.sets {l m : List Int} (h : TreeP l m) : Sets7 l := fun x hx => by
  obtain ⟨i, hi, rfl⟩ := List.mem_iff_getElem.1 hx
  have := (h.2.2 i hi).1
  rw [show nth l i = l[i] by simp [nth, List.getD, hi]] at this
  omega

set_option maxHeartbeats 2000000 in
set_option maxRecDepth 100000 in
theorem implCt (n : Int) (v u0 u1 : Value) (lg l m : List Int) (w : World) (hnl : u0 = .slice none 0 0 ∨ ∃ ad cap, u0 = .slice (some ad) l.length cap) (h : Ints w v lg) (h0 : Ints w u0 l) (h1 : Ints w u1 m) (hl : l.length ≤ 1048576) (hm : m.length ≤ 1048576) :
    Calls Try.prog 26 #[.agg #[.int .i64 n, v], .agg #[u0, u1]] w (SaysB (CtP n lg l m) w) := by
  obtain ⟨a, cap, rfl, -, -⟩ := h.form
  obtain ⟨ad, cp, rfl, -, -⟩ := h0.form
  obtain ⟨bd, cp', rfl, -, -⟩ := h1.form
  have HNB := Lib.hid hnl
  clear hnl
  have HG := Lib.hid h
  have HI := Lib.hid h0
  have HJ := Lib.hid h1
  obtain ⟨w0, hw0⟩ : ∃ w0, w0 = (w.alloc (.cells #[.int .i64 n, .slice a lg.length cap] 27)).alloc (.cells #[.slice ad l.length cp, .slice bd m.length cp'] 42) := ⟨_, rfl⟩
  have F0 := Lib.hid (show Below w.heap.size w w0 by rw [hw0]; exact ((Below.refl _ w).alloc (Nat.le_refl _) _).alloc (by simp) _)
  have A0 := Lib.hid (show Box w.heap.size [.int .i64 n, .slice a lg.length cap] w0 by rw [hw0]; exact (Box.new w _ _).keep (grown_alloc _ _ none) (by simp))
  have C0 := Lib.hid (show Box (w.heap.size + 1) [.slice ad l.length cp, .slice bd m.length cp'] w0 by rw [hw0]; have h := Box.new (w.alloc (.cells #[.int .i64 n, .slice a lg.length cap] 27)) 42 [.slice ad l.length cp, .slice bd m.length cp']; simpa using h)
  have HX : Hid (∀ W, Below w0.heap.size w0 W → W.cell? ⟨w.heap.size, 0, none⟩ = some (.int .i64 n) ∧ W.cell? ⟨w.heap.size, 1, none⟩ = some (.slice a lg.length cap) ∧ W.cell? ⟨w.heap.size + 1, 0, none⟩ = some (.slice ad l.length cp) ∧ W.cell? ⟨w.heap.size + 1, 1, none⟩ = some (.slice bd m.length cp')) := fun W hW => ⟨(A0.out.on hW).1 0 _ rfl, (A0.out.on hW).1 1 _ rfl, (C0.out.on hW).1 0 _ rfl, (C0.out.on hW).1 1 _ rfl⟩
  have HF : Hid (∀ W, Below w0.heap.size w0 W → Below w.heap.size w W) := fun W hW => F0.out.trans (hW.mono F0.out.size)
  clear h h0 h1
  go_enter Try.func26, Try.ntmps26
  go_wp2_with fail
  rw [← hw0]
  clear hw0
  refine (implIsG_any n _ lg _ (HG.out.on F0.out)).mono ?_
  rintro e w1 ⟨r, rfl, hr, hb⟩
  have H1 := Lib.hid hb
  clear hb
  obtain ⟨x0, x1, x2, x3⟩ := HX.out _ H1.out
  cases r with
  | false =>
    have HN := Lib.hid (show ¬ CtP n lg l m from fun h => absurd (hr.2 h.1) (by decide))
    have HQ := Lib.hid (HF.out _ H1.out)
    clear hr
    go_wp2
    go_ret
    exact SaysB.no HN.out HQ.out
  | true =>
    have HGG := Lib.hid (hr.1 rfl)
    clear hr
    go_wp2_with fail
    refine (implIsTree _ _ l m _ (HI.out.on (HF.out _ H1.out)) (HJ.out.on (HF.out _ H1.out)) hl hm).mono ?_
    rintro e w2 ⟨r, rfl, hr, hb⟩
    have H2 := Lib.hid (H1.out.trans (hb.mono H1.out.size))
    clear hb x0 x1 x2 x3
    obtain ⟨x0, x1, x2, x3⟩ := HX.out _ H2.out
    cases r with
    | false =>
      have HN := Lib.hid (show ¬ CtP n lg l m from fun h => absurd (hr.2 h.2.1) (by decide))
      have HQ := Lib.hid (HF.out _ H2.out)
      clear hr
      go_wp2
      go_ret
      exact SaysB.no HN.out HQ.out
    | true =>
      have HTR := Lib.hid (hr.1 rfl)
      clear hr
      go_wp2_with fail
      refine (slicesClone9 _ l _ (HI.out.on (HF.out _ H2.out)) HNB.out hl).mono ?_
      rintro e w3 ⟨v1, rfl, ho, hb⟩
      have H3 := Lib.hid (H2.out.trans (hb.mono H2.out.size))
      have HO := Lib.hid (show OwnI w0.heap.size w3 v1 l from ho.mono H2.out.size)
      clear hb ho x0 x1 x2 x3
      go_wp2_with fail
      refine (sortOwn HO.out hl).mono ?_
      rintro e w4 ⟨rfl, ho, hg⟩
      have HO4 := Lib.hid ho
      have H4 := Lib.hid (H3.out.grown hg H3.out.size (fun k hk => (HO.out.lt k hk).1))
      clear ho hg HO
      obtain ⟨x0, x1, x2, x3⟩ := HX.out _ H4.out
      go_wp2_with fail
      refine (implMax n _ lg _ (HG.out.on (HF.out _ H4.out))).mono ?_
      rintro e w5 ⟨vm, rfl, hom, hb⟩
      have H5 := Lib.hid (H4.out.trans (hb.mono H4.out.size))
      have HO5 := Lib.hid (HO4.out.on hb)
      have HM := Lib.hid hom
      clear hb hom x0 x1 x2 x3 HO4
      go_wp2_with fail
      refine (slicesEqual_any v1 vm _ _ _ HO5.out.ints HM.out.ints (by rw [sortL_length]; omega) (by have := maxR_length n lg; omega)).mono ?_
      rintro e w6 ⟨r, rfl, hr, hb⟩
      have H6 := Lib.hid (H5.out.trans (hb.mono H5.out.size))
      clear hb HO5 HM
      obtain ⟨x0, x1, x2, x3⟩ := HX.out _ H6.out
      cases r with
      | false =>
        have HN := Lib.hid (show ¬ CtP n lg l m from fun h => absurd (hr.2 h.2.2.1) (by decide))
        have HQ := Lib.hid (HF.out _ H6.out)
        clear hr
        go_wp2
        go_ret
        exact SaysB.no HN.out HQ.out
      | true =>
        have HE := Lib.hid (hr.1 rfl)
        clear hr
        go_wp2_with fail
        refine (nodesOf_is _ _ l m _ (HI.out.on (HF.out _ H6.out)) (HJ.out.on (HF.out _ H6.out)) hl hm (by have := HTR.out.2.1; omega)).mono ?_
        rintro e w7 ⟨g, rfl, hg, hrow, hb⟩
        have H7 := Lib.hid (H6.out.trans (hb.mono H6.out.size))
        have HRW := Lib.hid hrow
        clear hb hrow x0 x1 x2 x3 hg
        go_wp2_with fail
        refine (hang_is g l m _ HRW.out HTR.out.sets HTR.out.par hl).mono ?_
        rintro e w8 ⟨r, rfl, hr, hb⟩
        have HN := Lib.hid (show r = true ↔ CtP n lg l m from ⟨fun h => ⟨HGG.out, HTR.out, HE.out, hr.1 h⟩, fun h => hr.2 h.2.2.2⟩)
        have HQ := Lib.hid (HF.out _ (H7.out.trans (hb.mono H7.out.size)))
        clear hr hb
        go_wp2
        go_ret
        exact ⟨r, by first | rfl | (cases r <;> rfl), HN.out, HQ.out⟩

set_option maxHeartbeats 4000000 in
set_option maxRecDepth 100000 in
theorem specCt (n : Int) (v q0 q1 : Value) (lg l m : List Int) (w : World) (h : Ints w v lg) (h0 : Ints w q0 l) (h1 : Ints w q1 m) (hl : l.length ≤ 1048576) (hm : m.length ≤ 1048576) :
    Calls Try.prog 24 #[.agg #[.int .i64 n, v], .agg #[q0, q1]] w (SaysB (CtP n lg l m) w) := by
  obtain ⟨a, cap, rfl, -, -⟩ := h.form
  obtain ⟨ad, cp, rfl, -, -⟩ := h0.form
  obtain ⟨bd, cp', rfl, -, -⟩ := h1.form
  have HG := Lib.hid h
  have HI := Lib.hid h0
  have HJ := Lib.hid h1
  obtain ⟨w0, hw0⟩ : ∃ w0, w0 = (w.alloc (.cells #[.int .i64 n, .slice a lg.length cap] 27)).alloc (.cells #[.slice ad l.length cp, .slice bd m.length cp'] 42) := ⟨_, rfl⟩
  have F0 := Lib.hid (show Below w.heap.size w w0 by rw [hw0]; exact ((Below.refl _ w).alloc (Nat.le_refl _) _).alloc (by simp) _)
  have A0 := Lib.hid (show Box w.heap.size [.int .i64 n, .slice a lg.length cap] w0 by rw [hw0]; exact (Box.new w _ _).keep (grown_alloc _ _ none) (by simp))
  have C0 := Lib.hid (show Box (w.heap.size + 1) [.slice ad l.length cp, .slice bd m.length cp'] w0 by rw [hw0]; have h := Box.new (w.alloc (.cells #[.int .i64 n, .slice a lg.length cap] 27)) 42 [.slice ad l.length cp, .slice bd m.length cp']; simpa using h)
  have HX : Hid (∀ W, Below w0.heap.size w0 W → W.cell? ⟨w.heap.size, 0, none⟩ = some (.int .i64 n) ∧ W.cell? ⟨w.heap.size, 1, none⟩ = some (.slice a lg.length cap) ∧ W.cell? ⟨w.heap.size + 1, 0, none⟩ = some (.slice ad l.length cp) ∧ W.cell? ⟨w.heap.size + 1, 1, none⟩ = some (.slice bd m.length cp')) := fun W hW => ⟨(A0.out.on hW).1 0 _ rfl, (A0.out.on hW).1 1 _ rfl, (C0.out.on hW).1 0 _ rfl, (C0.out.on hW).1 1 _ rfl⟩
  have HF : Hid (∀ W, Below w0.heap.size w0 W → Below w.heap.size w W) := fun W hW => F0.out.trans (hW.mono F0.out.size)
  have CGA : Hid (∀ W, Below w0.heap.size w0 W → Calls Try.prog 38 #[.agg #[.int .i64 n, .slice a lg.length cap]] W (SaysB (IsG n lg) W)) := fun W hW => specIsG_any n _ lg W (HG.out.on (HF.out W hW))
  have CTA : Hid (∀ W, Below w0.heap.size w0 W → Calls Try.prog 54 #[.agg #[.slice ad l.length cp, .slice bd m.length cp']] W (SaysB (TreeP l m) W)) := fun W hW => specIsTree _ _ l m W (HI.out.on (HF.out W hW)) (HJ.out.on (HF.out W hW)) hl hm
  clear h h0 h1
  by_cases hg : IsG n lg
  · have CG : Hid (∀ W, Below w0.heap.size w0 W → Calls Try.prog 38 #[.agg #[.int .i64 n, .slice a lg.length cap]] W fun e w' => e = .returned (.bool true) ∧ Below W.heap.size W w') := fun W hW => (CGA.out W hW).mono fun e w' hh => hh.is_yes hg
    by_cases ht : TreeP l m
    · have CT : Hid (∀ W, Below w0.heap.size w0 W → Calls Try.prog 54 #[.agg #[.slice ad l.length cp, .slice bd m.length cp']] W fun e w' => e = .returned (.bool true) ∧ Below W.heap.size W w') := fun W hW => (CTA.out W hW).mono fun e w' hh => hh.is_yes ht
      have CS : Hid (∀ W, Below w0.heap.size w0 W → Calls Try.prog 41 #[.slice ad l.length cp] W (GetsI W.heap.size W (sortL l))) := fun W hW => specSorted _ l W (HI.out.on (HF.out W hW)) hl
      have CM : Hid (∀ W, Below w0.heap.size w0 W → Calls Try.prog 48 #[.agg #[.int .i64 n, .slice a lg.length cap]] W (GetsI W.heap.size W (maxR n lg))) := fun W hW => specMax n _ lg W (HG.out.on (HF.out W hW))
      have CE : Hid (∀ W v1 v2, Ints W v1 (sortL l) → Ints W v2 (maxR n lg) → Calls Try.prog 47 #[v1, v2] W (SaysB (sortL l = maxR n lg) W)) := fun W v1 v2 h1 h2 => specSame_any v1 v2 _ _ W h1 h2 (by rw [sortL_length]; omega) (by have := maxR_length n lg; omega)
      by_cases hE : sortL l = maxR n lg
      · have CF : Hid (∀ W, Below w0.heap.size w0 W → Calls Try.prog 55 #[.agg #[.slice ad l.length cp, .slice bd m.length cp']] W (SaysB (OnceB (begT l m) l.length) W)) := fun W hW => joined8_is _ _ l m W (HI.out.on (HF.out W hW)) (HJ.out.on (HF.out W hW)) ht.sets ht.par hl
        have HN : Hid (OnceB (begT l m) l.length ↔ CtP n lg l m) := ⟨fun h => ⟨hg, ht, hE, h⟩, fun h => h.2.2.2⟩
        obtain ⟨L1, hL1⟩ : ∃ L, L = sortL l := ⟨_, rfl⟩
        obtain ⟨L2, hL2⟩ : ∃ L, L = maxR n lg := ⟨_, rfl⟩
        rw [← hL1, ← hL2] at CE hE
        rw [← hL1] at CS
        rw [← hL2] at CM
        clear hL1 hL2 hg ht
        go_enter Try.func24, Try.ntmps24
        go_wp2
        rw [← hw0]
        clear hw0
        obtain ⟨x0, x1, x2, x3⟩ := HX.out _ (Below.refl _ w0)
        first
          | (go_region_with (first
        | (go_at_call 38; refine (CG.out _ (by first | exact Below.refl _ _ | exact (Below.refl _ _).drew)).mono ?_; rintro e w2 ⟨rfl, hb2⟩
           have HW2 := Lib.hid (show Below w0.heap.size w0 w2 from (by first | exact hb2 | exact (Below.refl _ w0).drew.trans hb2))
           obtain ⟨x0, x1, x2, x3⟩ := HX.out _ HW2.out
           clear hb2)
        | (go_at_call 54; refine (CT.out _ HW2.out).mono ?_; rintro e w9 ⟨rfl, hb9⟩
           have HW9 := Lib.hid (HW2.out.trans (hb9.mono HW2.out.size))
           obtain ⟨z0, z1, z2, z3⟩ := HX.out _ HW9.out
           clear hb9)
        | (go_at_call 41; refine (CS.out _ HW9.out).mono ?_; rintro e w3 ⟨v3, rfl, ho3, hb3⟩
           have HW3 := Lib.hid (HW9.out.trans (hb3.mono HW9.out.size))
           have HO3 := Lib.hid ho3
           obtain ⟨y0, y1, y2, y3⟩ := HX.out _ HW3.out
           clear ho3 hb3)
        | (go_at_call 48; refine (CM.out _ HW3.out).mono ?_; rintro e w4 ⟨v4, rfl, ho4, hb4⟩
           have HW4 := Lib.hid (HW3.out.trans (hb4.mono HW3.out.size))
           have HO4 := Lib.hid (HO3.out.on hb4)
           have HM4 := Lib.hid ho4
           clear ho4 hb4)
        | (go_at_call 47; refine (CE.out _ _ _ HO4.out.ints HM4.out.ints).mono ?_; rintro e w5 ⟨r, rfl, hr, hb5⟩
           have HW5 := Lib.hid (HW4.out.trans (hb5.mono HW4.out.size))
           obtain ⟨u0, u1, u2, u3⟩ := HX.out _ HW5.out
           obtain rfl : r = true := hr.2 hE
           clear hr hb5)
        | (go_at_call 55; refine (CF.out _ HW5.out).mono ?_; rintro e w6 ⟨r, rfl, hr, hb6⟩
           have HR6 := Lib.hid hr
           have HW6 := Lib.hid (HW5.out.trans (hb6.mono HW5.out.size))
           clear hr hb6)))
          | fail
        all_goals
          go_wp2
          go_ret
          exact ⟨r, by first | rfl | (cases r <;> rfl), ⟨fun h => HN.out.1 (HR6.out.1 h), fun h => HR6.out.2 (HN.out.2 h)⟩, HF.out _ HW6.out⟩
      · have HN := Lib.hid (show ¬ CtP n lg l m from fun h => hE h.2.2.1)
        obtain ⟨L1, hL1⟩ : ∃ L, L = sortL l := ⟨_, rfl⟩
        obtain ⟨L2, hL2⟩ : ∃ L, L = maxR n lg := ⟨_, rfl⟩
        rw [← hL1, ← hL2] at CE hE
        rw [← hL1] at CS
        rw [← hL2] at CM
        clear hL1 hL2 hg ht
        go_enter Try.func24, Try.ntmps24
        go_wp2
        rw [← hw0]
        clear hw0
        obtain ⟨x0, x1, x2, x3⟩ := HX.out _ (Below.refl _ w0)
        first
          | (go_region_with (first
        | (go_at_call 38; refine (CG.out _ (by first | exact Below.refl _ _ | exact (Below.refl _ _).drew)).mono ?_; rintro e w2 ⟨rfl, hb2⟩
           have HW2 := Lib.hid (show Below w0.heap.size w0 w2 from (by first | exact hb2 | exact (Below.refl _ w0).drew.trans hb2))
           obtain ⟨x0, x1, x2, x3⟩ := HX.out _ HW2.out
           clear hb2)
        | (go_at_call 54; refine (CT.out _ HW2.out).mono ?_; rintro e w9 ⟨rfl, hb9⟩
           have HW9 := Lib.hid (HW2.out.trans (hb9.mono HW2.out.size))
           obtain ⟨z0, z1, z2, z3⟩ := HX.out _ HW9.out
           clear hb9)
        | (go_at_call 41; refine (CS.out _ HW9.out).mono ?_; rintro e w3 ⟨v3, rfl, ho3, hb3⟩
           have HW3 := Lib.hid (HW9.out.trans (hb3.mono HW9.out.size))
           have HO3 := Lib.hid ho3
           obtain ⟨y0, y1, y2, y3⟩ := HX.out _ HW3.out
           clear ho3 hb3)
        | (go_at_call 48; refine (CM.out _ HW3.out).mono ?_; rintro e w4 ⟨v4, rfl, ho4, hb4⟩
           have HW4 := Lib.hid (HW3.out.trans (hb4.mono HW3.out.size))
           have HO4 := Lib.hid (HO3.out.on hb4)
           have HM4 := Lib.hid ho4
           clear ho4 hb4)
        | (go_at_call 47; refine (CE.out _ _ _ HO4.out.ints HM4.out.ints).mono ?_; rintro e w5 ⟨r, rfl, hr, hb5⟩
           have HW5 := Lib.hid (HW4.out.trans (hb5.mono HW4.out.size))
           obtain ⟨u0, u1, u2, u3⟩ := HX.out _ HW5.out
           obtain rfl : r = false := by cases r with | false => rfl | true => exact absurd (hr.1 rfl) hE
           clear hr hb5)))
          | fail
        all_goals
          go_wp2
          go_ret
          exact SaysB.no HN.out (HF.out _ HW5.out)
    · have HN := Lib.hid (show ¬ CtP n lg l m from fun h => ht h.2.1)
      have hx0 : ∀ X : Since w0, X.val.cell? ⟨w.heap.size, 0, none⟩ = some (.int .i64 n) := fun X => (HX.out _ X.prop).1
      have hx1 : ∀ X : Since w0, X.val.cell? ⟨w.heap.size, 1, none⟩ = some (.slice a lg.length cap) := fun X => (HX.out _ X.prop).2.1
      have hx2 : ∀ X : Since w0, X.val.cell? ⟨w.heap.size + 1, 0, none⟩ = some (.slice ad l.length cp) := fun X => (HX.out _ X.prop).2.2.1
      have hx3 : ∀ X : Since w0, X.val.cell? ⟨w.heap.size + 1, 1, none⟩ = some (.slice bd m.length cp') := fun X => (HX.out _ X.prop).2.2.2
      have HC : Hid (∀ X : Since w0, Calls Try.prog 38 #[.agg #[.int .i64 n, .slice a lg.length cap]] X.val fun e w' => e = .returned (.bool true) ∧ Below X.val.heap.size X.val w') := fun X => CG.out _ X.prop
      have HC2 : Hid (∀ X : Since w0, Calls Try.prog 54 #[.agg #[.slice ad l.length cp, .slice bd m.length cp']] X.val fun e w' => e = .returned (.bool false) ∧ Below X.val.heap.size X.val w') := fun X => (CTA.out _ X.prop).mono fun e w' hh => hh.is_no ht
      clear hg ht CG
      go_enter Try.func24, Try.ntmps24
      go_wp2
      rw [← hw0]
      clear hw0
      refine wp_region_since (by kernel_rfl) (by kernel_rfl) ?_
      repeat (go_big_quiet_step (first | with_reducible exact since_call (HC.out _) | with_reducible exact since_call (HC2.out _)))
      refine wpQuiet_nil ?_
      intro X
      have HXB := Lib.hid (HF.out _ X.prop)
      clear hx0 hx1 hx2 hx3
      go_wp2
      go_ret
      exact SaysB.no HN.out HXB.out
  · have HN := Lib.hid (show ¬ CtP n lg l m from fun h => hg h.1)
    have hx0 : ∀ X : Since w0, X.val.cell? ⟨w.heap.size, 0, none⟩ = some (.int .i64 n) := fun X => (HX.out _ X.prop).1
    have hx1 : ∀ X : Since w0, X.val.cell? ⟨w.heap.size, 1, none⟩ = some (.slice a lg.length cap) := fun X => (HX.out _ X.prop).2.1
    have HC : Hid (∀ X : Since w0, Calls Try.prog 38 #[.agg #[.int .i64 n, .slice a lg.length cap]] X.val fun e w' => e = .returned (.bool false) ∧ Below X.val.heap.size X.val w') := fun X => (CGA.out _ X.prop).mono fun e w' hh => hh.is_no hg
    clear hg
    go_enter Try.func24, Try.ntmps24
    go_wp2
    rw [← hw0]
    clear hw0
    refine wp_region_since (by kernel_rfl) (by kernel_rfl) ?_
    repeat (go_big_quiet_step (with_reducible exact since_call (HC.out _)))
    refine wpQuiet_nil ?_
    intro X
    have HXB := Lib.hid (HF.out _ X.prop)
    clear hx0 hx1
    go_wp2
    go_ret
    exact SaysB.no HN.out HXB.out

end Go.Proofs.Ytpifgmmmmhenmab
