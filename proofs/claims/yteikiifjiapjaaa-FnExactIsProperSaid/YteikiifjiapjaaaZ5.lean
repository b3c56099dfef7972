/- impl.UmbrellaOf, impl.IsProper. -/
import Derived.Test.YteikiifjiapjaaaZ3
namespace Go.Proofs.Yteikiifjiapjaaa
set_option linter.unusedVariables false
set_option linter.unusedSimpArgs false
open Go.RowKit

set_option maxRecDepth 100000 in
theorem enters_umb : Enters 71 := fun args W => by rfl

set_option maxHeartbeats 1000000 in
set_option maxRecDepth 100000 in
theorem rule_umb (n : Int) (v : Value) (lg : List Int) (hg : IsG n lg) (q : Nat) (W0 : World) (hI : Ints W0 v lg) (hB : BoxG q n v W0) :
    RuleO 71 #[.pointer (some ⟨q, 0, none⟩)] lg (fun L x => decide (StayL lg L x)) W0 := by
  intro W L u x hL hV h7 hx hb
  obtain ⟨a, cap, rfl, -, -⟩ := hI.form
  have hm7 : lg.length ≤ 7 := by have := hg.2.1; have := hg.2.2.1; omega
  have HI := Lib.hid (hI.on hb)
  have HL := Lib.hid hL
  have HV := Lib.hid hV
  obtain ⟨c0, c1, cz⟩ := hB.keep (below_grown hb) (by simp)
  show Calls Try.prog 71 #[u, .int .i64 x, .pointer (some ⟨q, 0, none⟩)] W (fun e W' => e = .returned (.bool (decide (StayL lg L x))) ∧ Below W.heap.size W W')
  obtain ⟨b, hbb⟩ : ∃ b, b = decide (StayL lg L x) := ⟨_, rfl⟩
  have HBB := Lib.hid hbb
  rw [← hbb]
  clear hI hL hB hb hg hbb hV
  go_enter Try.func71, Try.ntmps71
  go_wp2_with fail
  refine (implStays n _ _ lg L x _ HI.out HL.out hx hm7 HV.out h7).mono ?_
  rintro e w1 hs
  obtain ⟨rfl, hb1⟩ := hs.dec
  rw [← HBB.out]
  have HB1 := Lib.hid hb1
  clear hs hb1
  go_wp2
  go_ret
  exact ⟨rfl, HB1.out⟩

set_option maxHeartbeats 1000000 in
set_option maxRecDepth 100000 in
theorem implUmbO (n : Int) (v : Value) (lg : List Int) (w : World) (h : Ints w v lg) :
    Calls Try.prog 39 #[.agg #[.int .i64 n, v]] w (GetsLB w.heap.size w (umbO n lg)) := by
  obtain ⟨a, cap, rfl, -, -⟩ := h.form
  have HI := Lib.hid h
  have HA := argG' (T := 28) (n := n) h
  have hmf : ∀ (fn : Fn) (first cap : Array Value) (w : World), (Instr.makeFunc fn first cap).run Try.prog w = .ok (.func fn first cap) w := fun _ _ _ _ => rfl
  obtain ⟨R, hR⟩ : ∃ R, R = umbO n lg := ⟨_, rfl⟩
  have HR := Lib.hid hR
  rw [← hR]
  clear h hR
  go_enter Try.func39, Try.ntmps39
  go_wp2_with fail
  refine (implIsG_any n _ lg _ (HI.out.alloc _)).mono ?_
  rintro e w1 ⟨r, rfl, hr, hb⟩
  have HB := Lib.hid (hb.mono (B' := w.heap.size + 1) (by simp))
  have HRR := Lib.hid hr
  clear hb hr
  obtain ⟨c0, c1, cI, cB, cz⟩ := HA.out _ HB.out
  have HC := Lib.hid cI
  have HCB := Lib.hid cB
  clear cI cB
  cases r with
  | false =>
    have HN := Lib.hid (show R = none by rw [HR.out]; unfold umbO; rw [if_neg (fun h => absurd (HRR.out.2 h) (by decide))])
    go_wp2
    go_ret2
    exact ⟨_, by rw [HN.out]; rfl, by rw [HN.out]; exact OwnI.nil0 _ _, HCB.out⟩
  | true =>
    have HG := Lib.hid (HRR.out.1 (by first | rfl | trivial))
    have HN := Lib.hid (show R = srchS lg.length (fun (L : List Int) (u : Nat) => !decide ((u : Int) ∈ L) && decide (StayL lg L u)) (fun _ => true) lg.length [] by rw [HR.out]; unfold umbO; rw [if_pos HG.out]; rfl)
    have HBX := Lib.hid (show BoxG w.heap.size n (.slice a lg.length cap) w1 from ⟨c0, c1, cz⟩)
    go_wp2_with fail
    refine (firstOrder_any _ _ _ enters_umb n _ lg HG.out w1 (rule_umb n _ lg HG.out w.heap.size w1 HC.out HBX.out) w.heap.size lg.length [] _ _ HC.out (OwnI.nil0 _ _) (by omega) (Verts.nil lg) (by simp) (Below.refl _ _)).mono ?_
    rintro e w2 ⟨v2, rfl, ho, hb2⟩
    rw [← HN.out] at ho ⊢
    have HO := Lib.hid ho
    have HW := Lib.hid (HCB.out.trans (hb2.mono HCB.out.size))
    clear ho hb2 c0 c1 cz
    go_wp2
    go_ret2
    exact ⟨_, rfl, HO.out, HW.out⟩

set_option maxHeartbeats 1000000 in
set_option maxRecDepth 100000 in
theorem implProp (n : Int) (v : Value) (lg : List Int) (w : World) (h : Ints w v lg) :
    Calls Try.prog 41 #[.agg #[.int .i64 n, v]] w (fun e w' => e = .returned (.bool (outS (umbO n lg))) ∧ Below w.heap.size w w') := by
  obtain ⟨a, cap, rfl, -, -⟩ := h.form
  have HI := Lib.hid h
  obtain ⟨b, hb⟩ : ∃ b, b = outS (umbO n lg) := ⟨_, rfl⟩
  have HBB := Lib.hid hb
  rw [← hb]
  clear h hb
  go_enter Try.func41, Try.ntmps41
  go_wp2_with fail
  refine (implUmbO n _ lg _ (HI.out.alloc _)).mono ?_
  rintro e w1 ⟨v1, rfl, -, hb1⟩
  rw [← HBB.out]
  have HW := Lib.hid (((Below.refl _ w).alloc (Nat.le_refl _) _).trans (hb1.mono (B' := w.heap.size) (by simp)))
  clear hb1
  go_wp2
  go_ret
  exact ⟨rfl, HW.out⟩

end Go.Proofs.Yteikiifjiapjaaa
