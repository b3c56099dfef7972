/- ChordalColoring. -/
import Derived.Test.YtpifgmmmmhenmabDoorCz
import Derived.Test.YtpifgmmmmhenmabDoorCy
import Derived.Test.YtpifgmmmmhenmabDoorT7
import Derived.Test.YtpifgmmmmhenmabDoorRv
import Derived.Test.YtpifgmmmmhenmabDoorRe
namespace Go.Proofs.YtpifgmmmmhenmabDoor
set_option linter.unusedVariables false
set_option linter.unusedSimpArgs false
open Go.RowKit Go.Shelf

def chrO (n : Int) (l : List Int) : Option (List Int) := (elimR n l).map fun o => colR n l o.reverse

theorem chrO_len (n : Int) (l : List Int) : (outL (chrO n l)).length ≤ 7 := by
  unfold chrO
  cases elimR n l with
  | none => simp [outL]
  | some o => exact colR_length _ _ _

set_option maxHeartbeats 2000000 in
set_option maxRecDepth 100000 in
theorem implChr (n : Int) (v : Value) (l : List Int) (w : World) (hT : TabT w) (h : Ints w v l) :
    Calls Tryd.prog 29 #[.agg #[.int .i64 n, v]] w (GetsLB w.heap.size w (chrO n l)) := by
  obtain ⟨a, cap, rfl, -, -⟩ := h.form
  have HA := argG' (T := 28) (n := n) h
  have HTT := Lib.hid hT
  have HLE := Lib.hid (elimR_len n l)
  obtain ⟨R, hR⟩ : ∃ R, R = chrO n l := ⟨_, rfl⟩
  have HRR := Lib.hid hR
  rw [← hR]
  have HI := Lib.hid h
  clear h hT hR
  go_enter Tryd.func29, Tryd.ntmps29
  go_wp2_with fail
  refine (implElim n _ l _ (HI.out.alloc _)).mono ?_
  rintro e w1 ⟨vo, rfl, ho, hb⟩
  have HB := Lib.hid (hb.mono (B' := w.heap.size + 1) (by simp))
  have HO := Lib.hid (show OwnI (w.heap.size + 1) w1 vo (outL (elimR n l)) from ho.mono (by simp))
  clear hb ho
  obtain ⟨c0, c1, cI, cB, hz⟩ := HA.out _ HB.out
  have HCB := Lib.hid cB
  clear cI cB
  obtain ⟨E, hE⟩ : ∃ E, E = elimR n l := ⟨_, rfl⟩
  have HEE := Lib.hid hE
  rw [← hE] at HO HLE ⊢
  clear hE
  cases E with
  | none =>
    have HN := Lib.hid (show R = none by rw [HRR.out]; unfold chrO; rw [← HEE.out]; rfl)
    go_wp2
    refine bodyPost_ret (v := .tuple #[.slice none 0 0, .bool false]) (by simp [results, Tryd.f29, go_sem]) rfl ?_
    rw [HN.out]
    exact ⟨_, rfl, ⟨inI64_nil, World.ownsRow_nil _ _ _ _⟩, HCB.out⟩
  | some o =>
    have HN := Lib.hid (show R = some (colR n l o.reverse) by rw [HRR.out]; unfold chrO; rw [← HEE.out]; rfl)
    have hol : o.length ≤ 7 := HLE.out
    have HO2 : Hid (OwnI (w.heap.size + 1) w1 vo o) := HO
    clear HO HLE
    go_wp2_with fail
    refine (ownReverse HO2.out (by omega)).mono ?_
    rintro e w2 ⟨rfl, ho, hg⟩
    have HO3 := Lib.hid ho
    have HB2 := Lib.hid (HB.out.grown hg (by have := HB.out.size; simpa using this) (fun k hk => (HO2.out.lt k hk).1))
    clear ho hg c0 c1 hz
    obtain ⟨c0, c1, cI, cB, hz⟩ := HA.out _ HB2.out
    have HCI := Lib.hid cI
    have HCB2 := Lib.hid cB
    clear cI cB
    go_wp2_with fail
    refine (implColor n _ vo l o.reverse _ (HTT.out.on HCB2.out) HCI.out HO3.out.ints (by rw [List.length_reverse]; omega)).mono ?_
    rintro e w3 ⟨vc, rfl, ho, hb⟩
    have HO4 := Lib.hid (ho.mono (B' := w.heap.size) HCB2.out.size)
    have HB3 := Lib.hid (HCB2.out.trans (hb.mono HCB2.out.size))
    clear ho hb
    go_wp2
    refine bodyPost_ret (v := .tuple #[vc, .bool true]) (by simp [results, Tryd.f29, go_sem]) rfl ?_
    rw [HN.out]
    exact ⟨_, rfl, HO4.out, HB3.out⟩

set_option maxHeartbeats 2000000 in
set_option maxRecDepth 100000 in
theorem specChr (n : Int) (v : Value) (l : List Int) (w : World) (h : Ints w v l) :
    Calls Tryd.prog 28 #[.agg #[.int .i64 n, v]] w (GetsLB w.heap.size w (chrO n l)) := by
  obtain ⟨a, cap, rfl, -, -⟩ := h.form
  have HA := argG' (T := 28) (n := n) h
  have HLE := Lib.hid (elimR_len n l)
  obtain ⟨R, hR⟩ : ∃ R, R = chrO n l := ⟨_, rfl⟩
  have HRR := Lib.hid hR
  rw [← hR]
  have HI := Lib.hid h
  clear h hR
  go_enter Tryd.func28, Tryd.ntmps28
  go_wp2_with fail
  refine (specElim n _ l _ (HI.out.alloc _)).mono ?_
  rintro e w1 ⟨vo, rfl, ho, hb⟩
  have HB := Lib.hid (hb.mono (B' := w.heap.size + 1) (by simp))
  have HO := Lib.hid (show OwnI (w.heap.size + 1) w1 vo (outL (elimR n l)) from ho.mono (by simp))
  clear hb ho
  obtain ⟨c0, c1, cI, cB, hz⟩ := HA.out _ HB.out
  have HCB := Lib.hid cB
  clear cI cB
  obtain ⟨E, hE⟩ : ∃ E, E = elimR n l := ⟨_, rfl⟩
  have HEE := Lib.hid hE
  rw [← hE] at HO HLE ⊢
  clear hE
  cases E with
  | none =>
    have HN := Lib.hid (show R = none by rw [HRR.out]; unfold chrO; rw [← HEE.out]; rfl)
    go_wp2
    refine bodyPost_ret (v := .tuple #[.slice (some ⟨w1.heap.size, 0, none⟩) 0 0, .bool false]) (by simp [results, Tryd.f28, go_sem]) rfl ?_
    rw [HN.out]
    exact ⟨_, rfl, OwnI.none0R HCB.out.size, HCB.out.alloc HCB.out.size _⟩
  | some o =>
    have HN := Lib.hid (show R = some (colR n l o.reverse) by rw [HRR.out]; unfold chrO; rw [← HEE.out]; rfl)
    have hol : o.length ≤ 7 := HLE.out
    have HO2 : Hid (OwnI (w.heap.size + 1) w1 vo o) := HO
    have HR : Hid (∀ W, Below w1.heap.size w1 W → W.cell? ⟨w.heap.size, 0, none⟩ = some (.int .i64 n) ∧ W.cell? ⟨w.heap.size, 1, none⟩ = some (.slice a l.length cap) ∧ Ints W (.slice a l.length cap) l ∧ Ints W vo o ∧ Below w1.heap.size w1 W) := fun W hW => by
      obtain ⟨d0, d1, dI, dB, -⟩ := HA.out _ (HB.out.trans (hW.mono hz))
      exact ⟨d0, d1, dI, HO2.out.ints.on hW, hW⟩
    have hrl : o.reverse.length ≤ 1048576 := by rw [List.length_reverse]; omega
    have hol2 : o.length ≤ 1048576 := by omega
    clear HO HLE
    go_wp2
    go_region_held3 (fun w' => w'.cell? ⟨w.heap.size, 0, none⟩ = some (.int .i64 n) ∧ w'.cell? ⟨w.heap.size, 1, none⟩ = some (.slice a l.length cap) ∧ Ints w' (.slice a l.length cap) l ∧ Ints w' vo o ∧ Below w1.heap.size w1 w')
      (first | exact HR.out _ (Below.refl _ _).drew | exact HR.out _ (Below.refl _ _) | (go_split_ands; exact HR.out _ (btrans (by assumption) hb)))
      (first
        | (go_at_call 49; go_split_ands; refine (specRev9 _ o _ (by assumption) hol2).mono ?_; rintro e wa ⟨vr, rfl, hor, hb⟩)
        | (go_at_call 25; go_split_ands; refine (specColor n _ _ l o.reverse _ (by assumption) hor.ints hrl).mono ?_; rintro e w5 ⟨vc, rfl, hoc, hb⟩; replace hoc := hoc.mono (B' := w1.heap.size) (Below.size (by assumption))))
    go_split_ands
    have hbE : Below w1.heap.size w1 w5 := by assumption
    have HO4 := Lib.hid (hoc.mono (B' := w.heap.size) HCB.out.size)
    have HB3 := Lib.hid (HCB.out.trans (hbE.mono HCB.out.size))
    clear hoc hbE hb hor
    go_wp2
    refine bodyPost_ret (v := .tuple #[vc, .bool true]) (by simp [results, Tryd.f28, go_sem]) rfl ?_
    rw [HN.out]
    exact ⟨_, rfl, HO4.out, HB3.out⟩

end Go.Proofs.YtpifgmmmmhenmabDoor
