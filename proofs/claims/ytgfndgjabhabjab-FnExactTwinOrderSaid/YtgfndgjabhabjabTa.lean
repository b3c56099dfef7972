/- impl.TwinOrder. -/
import Derived.Test.YtgfndgjabhabjabT6
import Derived.Test.YtgfndgjabhabjabT9
namespace Go.Proofs.Ytgfndgjabhabjab
set_option linter.unusedVariables false
set_option linter.unusedSimpArgs false
open Go.RowKit

/-- Is v the last that is left, or has it a twin there? -/
def twinF (l : List Int) (X v : Nat) : Bool := X == 2 ^ v || twinB l X v

def twinR (n : Int) (l : List Int) : Option (List Int) := if IsG n l then takeO (twinF l) 7 [] (2 ^ l.length - 1) else none

theorem twinR_len (n : Int) (l : List Int) : (outL (twinR n l)).length ≤ 7 := by
  unfold twinR
  split
  · rename_i hg
    have h1 := two_le l.length (by have := hg.2.1; have := hg.2.2.1; omega)
    cases hT : takeO (twinF l) 7 [] (2 ^ l.length - 1) with
    | none => simp [outL]
    | some M =>
      have := takeO_len 7 [] _ (by omega) M hT
      simpa [outL] using this
  · simp [outL]

set_option maxRecDepth 100000 in
theorem enters_twin : Enters 61 := fun args W => by rfl

set_option maxHeartbeats 2000000 in
set_option maxRecDepth 100000 in
theorem twin_rule (n : Int) (v : Value) (l : List Int) (q b : Nat) (w : World) (h : Ints w v l) (hg : IsG n l) (hb : BoxG b n v w) (hbq : b ≠ q) (hI : ∀ W, Only q (q + 1) w W → Ints W v l) :
    RuleT 61 #[.pointer (some ⟨q, 0, none⟩), .pointer (some ⟨b, 0, none⟩)] q l.length (twinF l) w := by
  intro W X k hO hQ hX hk
  have hkl : k < l.length := bit_lt hX hk
  have hl7 : l.length ≤ 7 := by have := hg.2.1; have := hg.2.2.1; omega
  have h128 := two_le l.length hl7
  have hIW := hI W hO
  obtain ⟨a, cap, rfl, -, -⟩ := h.form
  obtain ⟨c0, c1, cz⟩ := hb.keepO hO (by omega)
  have hk7 : k < 7 := by omega
  have hX7 : X < 128 := by omega
  obtain ⟨P2, eP2, hP21, hP22⟩ : ∃ P, (2 : Int) ^ k = P ∧ 1 ≤ P ∧ P ≤ 128 := ⟨_, rfl, (shl_one' k (by omega)).2.2.2.2, (shl_one' k (by omega)).2.2.2.1⟩
  have g1 : IntKind.i64.wrap (1 * P2) = P2 := IntWalk.i64_in _ (by omega) |>.trans (by omega)
  have g2 : IntKind.i64.wrap P2 = P2 := IntWalk.i64_in _ (by omega)
  have eN : P2 = ((2 ^ k : Nat) : Int) := by rw [← eP2]; push_cast; rfl
  have hx0 : ∀ Y : Since W, Y.val.cell? ⟨b, 0, none⟩ = some (.int .i64 n) := fun Y => (Y.prop.cell (p := ⟨b, 0, none⟩) cz).trans c0
  have hx1 : ∀ Y : Since W, Y.val.cell? ⟨b, 1, none⟩ = some (.slice a l.length cap) := fun Y => (Y.prop.cell (p := ⟨b, 1, none⟩) cz).trans c1
  have hx3 : ∀ Y : Since W, Y.val.cell? ⟨q, 0, none⟩ = some (.int .i64 (X : Int)) := fun Y => (Y.prop.cell (p := ⟨q, 0, none⟩) hQ.lt).trans hQ.cell
  have HC1 : Hid (∀ Y : Since W, Calls Try.prog 62 #[.agg #[.int .i64 n, .slice a l.length cap], .int .i64 (X : Int), .int .i64 (k : Int)] Y.val fun e w' => e = .returned (.bool (twinB l X k)) ∧ Below Y.val.heap.size Y.val w') := fun Y => implTwinB n _ l X k _ (hIW.on Y.prop) hg hX hk
  by_cases hE : X = 2 ^ k
  · have q1 : ((X : Int) == P2) = true := by rw [eN, hE]; simp
    have HF := Lib.hid (show twinF l X k = true by unfold twinF; rw [hE]; simp)
    clear h hg hb hI hO hQ hX hk hIW c0 c1 cz hE eN
    show Calls Try.prog 61 #[.int .i64 (k : Int), .pointer (some ⟨q, 0, none⟩), .pointer (some ⟨b, 0, none⟩)] W _
    rw [HF.out]
    go_enter Try.func61, Try.ntmps61
    go_wp2
    refine wp_region_since (by kernel_rfl) (by kernel_rfl) ?_
    repeat (go_big_quiet_step (fail))
    refine wpQuiet_nil ?_
    intro Y
    have HW := Lib.hid Y.prop
    clear hx0 hx1 hx3
    go_wp2
    go_ret
    exact ⟨rfl, HW.out⟩
  · have q1 : ((X : Int) == P2) = false := by rw [eN, beq_eq_false_iff_ne]; intro h9; exact hE (by exact_mod_cast h9)
    have HF := Lib.hid (show twinF l X k = twinB l X k by unfold twinF; rw [show (X == 2 ^ k) = false by simp [hE]]; rfl)
    clear h hg hb hI hO hQ hX hk hIW c0 c1 cz hE eN
    show Calls Try.prog 61 #[.int .i64 (k : Int), .pointer (some ⟨q, 0, none⟩), .pointer (some ⟨b, 0, none⟩)] W _
    rw [HF.out]
    obtain ⟨D, hD⟩ : ∃ D, D = twinB l X k := ⟨_, rfl⟩
    rw [← hD] at HC1 ⊢
    clear hD
    go_enter Try.func61, Try.ntmps61
    go_wp2
    refine wp_region_since (by kernel_rfl) (by kernel_rfl) ?_
    repeat (go_big_quiet_step (exact since_call (HC1.out _)))
    refine wpQuiet_nil ?_
    intro Y
    have HW := Lib.hid Y.prop
    clear hx0 hx1 hx3
    go_wp2
    go_ret
    exact ⟨rfl, HW.out⟩

set_option maxHeartbeats 2000000 in
set_option maxRecDepth 100000 in
theorem implTwin (n : Int) (v : Value) (l : List Int) (w : World) (h : Ints w v l) :
    Calls Try.prog 29 #[.agg #[.int .i64 n, v]] w (GetsLB w.heap.size w (twinR n l)) := by
  obtain ⟨a, cap, rfl, -, -⟩ := h.form
  have HA := argG' (T := 28) (n := n) h
  have HI := Lib.hid h
  clear h
  obtain ⟨w1, hw1⟩ : ∃ w1, w1 = w.alloc (.cells #[.int .i64 n, .slice a l.length cap] 28) := ⟨_, rfl⟩
  have hb1 : Below (w.heap.size + 1) (w.alloc (.cells #[.int .i64 n, .slice a l.length cap] 28)) w1 := by rw [hw1]; exact Below.refl _ _
  obtain ⟨c0, c1, cI, cB, cz⟩ := HA.out _ hb1
  have HCI := Lib.hid cI
  have HB1 := Lib.hid hb1
  have hs1 : w1.heap.size = w.heap.size + 1 := by rw [hw1]; simp
  clear cI cB hb1
  go_enter Try.func29, Try.ntmps29
  go_wp2_with fail
  rw [← hw1]
  clear hw1
  refine (implIsG_any n _ l _ HCI.out).mono ?_
  rintro e w2 ⟨r, rfl, hr, hb⟩
  have HRR := Lib.hid hr
  have HB2 := Lib.hid (HB1.out.trans (hb.mono (by omega)))
  clear hb hr c0 c1 cz hs1
  obtain ⟨c0, c1, cI, cB, cz⟩ := HA.out _ HB2.out
  have HCI2 := Lib.hid cI
  have HCB2 := Lib.hid cB
  clear cI cB
  cases r with
  | false =>
    have HN := Lib.hid (show twinR n l = none by unfold twinR; rw [if_neg (fun h => absurd (HRR.out.2 h) (by decide))])
    go_wp2
    refine bodyPost_ret (v := .tuple #[.slice none 0 0, .bool false]) (by simp [results, Try.results29, go_sem]) rfl ?_
    rw [HN.out]
    exact ⟨_, rfl, ⟨inI64_nil, World.ownsRow_nil _ _ _ _⟩, HCB2.out⟩
  | true =>
    have HG := Lib.hid (HRR.out.1 (by first | rfl | trivial))
    obtain ⟨f1, f2⟩ := full_nat HG.out
    have hl7 : l.length ≤ 7 := by have := HG.out.2.1; have := HG.out.2.2.1; omega
    obtain ⟨X0, hX0⟩ : ∃ X0, X0 = 2 ^ l.length - 1 := ⟨_, rfl⟩
    have HE := Lib.hid (show twinR n l = takeO (twinF l) 7 [] X0 by unfold twinR; rw [if_pos HG.out, hX0])
    rw [← hX0] at f1 f2
    have HX := Lib.hid f2
    have HCALL := Lib.hid (show Calls Try.prog 54 #[.agg #[.int .i64 n, .slice a l.length cap]] w2 fun e w' => e = .returned (.int .i64 (X0 : Int)) ∧ Below w2.heap.size w2 w' by
      rw [← f1]; exact allVertices_is n _ l w2 HCI2.out HG.out.1 HG.out.2.1)
    clear f1 f2 hX0
    go_wp2_with fail
    refine HCALL.out.mono ?_
    rintro e w3 ⟨rfl, hb⟩
    have HB3 := Lib.hid (HB2.out.trans (hb.mono cz))
    clear hb c0 c1 cz
    obtain ⟨c0, c1, cI, cB, cz⟩ := HA.out _ HB3.out
    have HCI3 := Lib.hid cI
    have HCB3 := Lib.hid cB
    obtain ⟨q, hq⟩ : ∃ q, q = w3.heap.size := ⟨_, rfl⟩
    obtain ⟨w4, hw4⟩ : ∃ w4, w4 = w3.alloc (.cells #[.int .i64 (X0 : Int)] 3) := ⟨_, rfl⟩
    have hb4 : Below w3.heap.size w3 w4 := by rw [hw4]; exact (Below.refl _ _).alloc (Nat.le_refl _) _
    have HQ := Lib.hid (show Boxed w4 q 3 (.int .i64 (X0 : Int)) by rw [hw4, hq]; exact Boxed.new w3 _ _)
    have HI4 := Lib.hid (HCI3.out.on hb4)
    have HQZ := Lib.hid (show w.heap.size + 1 ≤ q by rw [hq]; exact cz)
    have HBW := Lib.hid (HCB3.out.trans (hb4.mono HCB3.out.size))
    have HBX := Lib.hid (show BoxG w.heap.size n (.slice a l.length cap) w4 from ⟨(hb4.cell (p := ⟨w.heap.size, 0, none⟩) (by show w.heap.size < w3.heap.size; omega)).trans c0, (hb4.cell (p := ⟨w.heap.size, 1, none⟩) (by show w.heap.size < w3.heap.size; omega)).trans c1, by have := hb4.size; omega⟩)
    have HRULE := Lib.hid (twin_rule n (.slice a l.length cap) l q w.heap.size w4 HI4.out HG.out HBX.out (by have := HQZ.out; omega) (fun W ho => by
      have h1 : Below w.heap.size w W := HBW.out.trans (ho.below (by have := HQZ.out; omega) HBW.out.size)
      exact HI.out.on h1))
    clear cI cB c0 c1 cz hb4
    go_upto_region 4 with fail
    rw [← hw4, ← hq]
    clear hw4 hq
    go_wp2_with fail
    refine (takeIn_any _ _ enters_twin q l.length X0 (twinF l) w4 hl7 HX.out HQ.out HRULE.out).mono ?_
    rintro e w5 ⟨vr, rfl, ho, hb⟩
    rw [← HE.out] at ho ⊢
    have HO := Lib.hid ho
    have HB5 := Lib.hid (HBW.out.trans (hb.mono HBW.out.size))
    have HZ5 := Lib.hid (show w.heap.size ≤ w4.heap.size from HBW.out.size)
    clear ho hb
    go_wp2
    refine bodyPost_ret (v := .tuple #[vr, .bool (outS (twinR n l))]) (by simp [results, Try.results29, go_sem]) rfl ?_
    exact ⟨_, rfl, HO.out.mono HZ5.out, HB5.out⟩

end Go.Proofs.Ytgfndgjabhabjab
