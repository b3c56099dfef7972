/- EliminationOf, IsChordal. -/
import Derived.Test.YtpifgmmmmhenmabDoorT5
import Derived.Test.YtpifgmmmmhenmabDoorT1
import Derived.Test.YtpifgmmmmhenmabDoorV4
namespace Go.Proofs.YtpifgmmmmhenmabDoor
set_option linter.unusedVariables false
set_option linter.unusedSimpArgs false
open Go.RowKit

/-- Are the neighbours of v that are left a clique? -/
def elimF (n : Int) (l : List Int) (X v : Nat) : Bool := decide (CliqueS n l (bits .and .i64 (nth l v) (X : Int)))

def elimR (n : Int) (l : List Int) : Option (List Int) := if IsG n l then takeO (elimF n l) 7 [] (2 ^ l.length - 1) else none

theorem elimR_len (n : Int) (l : List Int) : (outL (elimR n l)).length ≤ 7 := by
  unfold elimR
  split
  · rename_i hg
    have h1 := two_le l.length (by have := hg.2.1; have := hg.2.2.1; omega)
    cases hT : takeO (elimF n l) 7 [] (2 ^ l.length - 1) with
    | none => simp [outL]
    | some M =>
      have := takeO_len 7 [] _ (by omega) M hT
      simpa [outL] using this
  · simp [outL]

theorem full_nat {n : Int} {l : List Int} (hg : IsG n l) : ((2 : Int) ^ n.toNat - 1 = ((2 ^ l.length - 1 : Nat) : Int)) ∧ 2 ^ l.length - 1 < 2 ^ l.length := by
  have hn : n.toNat = l.length := by have := hg.2.2.1; omega
  have h0 : 0 < 2 ^ l.length := Nat.pow_pos (by decide)
  have h1 : ((2 ^ l.length : Nat) : Int) = (2 : Int) ^ l.length := by push_cast; rfl
  rw [hn]
  exact ⟨by omega, by omega⟩

theorem and_small {n : Int} {l : List Int} (hg : IsG n l) {k X : Nat} (hk : k < l.length) (hX : X < 128) : 0 ≤ bits .and .i64 (nth l k) (X : Int) ∧ bits .and .i64 (nth l k) (X : Int) < 128 := by
  obtain ⟨h1, h2⟩ := hg.row_lt k hk
  have h7 := two_le l.length (by have := hg.2.1; have := hg.2.2.1; omega)
  rw [h2, (bits_nat (rowN l k) X (by omega) hX).1]
  have : rowN l k &&& X < 2 ^ 7 := Nat.and_lt_two_pow _ (by simpa using hX)
  omega

set_option maxRecDepth 100000 in
theorem enters_elim : Enters 82 := fun args W => by rfl

set_option maxHeartbeats 2000000 in
set_option maxRecDepth 100000 in
theorem elim_rule (n : Int) (v : Value) (l : List Int) (q b : Nat) (w : World) (h : Ints w v l) (hg : IsG n l) (hb : BoxG b n v w) (hbq : b ≠ q) (hI : ∀ W, Only q (q + 1) w W → Ints W v l) :
    RuleT 82 #[.pointer (some ⟨b, 0, none⟩), .pointer (some ⟨q, 0, none⟩)] q l.length (elimF n l) w := by
  intro W X k hO hQ hX hk
  have hkl : k < l.length := bit_lt hX hk
  have hl7 : l.length ≤ 7 := by have := hg.2.1; have := hg.2.2.1; omega
  have h128 := two_le l.length hl7
  have hIW := hI W hO
  obtain ⟨b0, off, cap, rfl, _, hmx, hbz, hcell⟩ := hIW.pos (by omega)
  obtain ⟨c0, c1, cz⟩ := hb.keepO hO (by omega)
  obtain ⟨z, hz⟩ : ∃ z, z = nth l k := ⟨_, rfl⟩
  have d1 := hcell k hkl
  rw [← hz] at d1
  obtain ⟨y, hy⟩ : ∃ y, y = bits .and .i64 z (X : Int) := ⟨_, rfl⟩
  have e1 : bits .and .i64 z (X : Int) = y := hy.symm
  have hE : elimF n l X k = decide (CliqueS n l y) := by unfold elimF; rw [← hz, ← hy]
  have hk7 : k < 7 := by omega
  rw [hE]
  have hx0 : ∀ Y : Since W, Y.val.cell? ⟨b, 0, none⟩ = some (.int .i64 n) := fun Y => (Y.prop.cell (p := ⟨b, 0, none⟩) cz).trans c0
  have hx1 : ∀ Y : Since W, Y.val.cell? ⟨b, 1, none⟩ = some (.slice (some ⟨b0, off, none⟩) l.length cap) := fun Y => (Y.prop.cell (p := ⟨b, 1, none⟩) cz).trans c1
  have hx2 : ∀ Y : Since W, Y.val.cell? ⟨b0, off + k, none⟩ = some (.int .i64 z) := fun Y => (Y.prop.cell (p := ⟨b0, off + k, none⟩) hbz).trans d1
  have hx3 : ∀ Y : Since W, Y.val.cell? ⟨q, 0, none⟩ = some (.int .i64 (X : Int)) := fun Y => (Y.prop.cell (p := ⟨q, 0, none⟩) hQ.lt).trans hQ.cell
  have HC1 : Hid (∀ Y : Since W, Calls Tryd.prog 83 #[.agg #[.int .i64 n, .slice (some ⟨b0, off, none⟩) l.length cap], .int .i64 y] Y.val fun e w' => e = .returned (.bool (decide (CliqueS n l y))) ∧ Below Y.val.heap.size Y.val w') := fun Y => (implClique n _ l y _ (hIW.on Y.prop)).mono fun _ _ h => h.dec
  obtain ⟨D, hD⟩ : ∃ D, D = decide (CliqueS n l y) := ⟨_, rfl⟩
  rw [← hD] at HC1 ⊢
  unfold maxLen at hmx
  clear h hg hb hI hO hQ hX hk hIW hcell d1 hz hy hE hD c0 c1 cz
  show Calls Tryd.prog 82 #[.int .i64 (k : Int), .pointer (some ⟨b, 0, none⟩), .pointer (some ⟨q, 0, none⟩)] W _
  go_enter Tryd.func82, Tryd.ntmps82
  go_wp2
  refine wp_region_since (by kernel_rfl) (by kernel_rfl) ?_
  repeat (go_big_quiet_step (exact since_call (HC1.out _)))
  refine wpQuiet_nil ?_
  intro Y
  have HW := Lib.hid Y.prop
  clear hx0 hx1 hx2 hx3 e1
  go_wp2
  go_ret
  exact ⟨rfl, HW.out⟩

set_option maxHeartbeats 2000000 in
set_option maxRecDepth 100000 in
theorem implElim (n : Int) (v : Value) (l : List Int) (w : World) (h : Ints w v l) :
    Calls Tryd.prog 50 #[.agg #[.int .i64 n, v]] w (GetsLB w.heap.size w (elimR n l)) := by
  obtain ⟨a, cap, rfl, -, -⟩ := h.form
  have HA := argG' (T := 28) (n := n) h
  have HI := Lib.hid h
  clear h
  obtain ⟨w1, hw1⟩ : ∃ w1, w1 = w.alloc (.cells #[.int .i64 n, .slice a l.length cap] 28) := ⟨_, rfl⟩
  have hb1 : Below (w.heap.size + 1) (w.alloc (.cells #[.int .i64 n, .slice a l.length cap] 28)) w1 := by rw [hw1]; exact Below.refl _ _
  obtain ⟨c0, c1, cI, cB, cz⟩ := HA.out _ hb1
  have HCI := Lib.hid cI
  have HB1 := Lib.hid hb1
  have hs1 : w1.heap.size = w.heap.size + 1 := by rw [hw1]; simp
  clear cI cB hb1
  go_enter Tryd.func50, Tryd.ntmps50
  go_wp2_with fail
  rw [← hw1]
  clear hw1
  refine (implIsG_any n _ l _ HCI.out).mono ?_
  rintro e w2 ⟨r, rfl, hr, hb⟩
  have HRR := Lib.hid hr
  have HB2 := Lib.hid (HB1.out.trans (hb.mono (by omega)))
  clear hb hr c0 c1 cz hs1
  obtain ⟨c0, c1, cI, cB, cz⟩ := HA.out _ HB2.out
  have HCI2 := Lib.hid cI
  have HCB2 := Lib.hid cB
  clear cI cB
  cases r with
  | false =>
    have HN := Lib.hid (show elimR n l = none by unfold elimR; rw [if_neg (fun h => absurd (HRR.out.2 h) (by decide))])
    go_wp2
    refine bodyPost_ret (v := .tuple #[.slice none 0 0, .bool false]) (by simp [results, Tryd.results50, go_sem]) rfl ?_
    rw [HN.out]
    exact ⟨_, rfl, ⟨inI64_nil, World.ownsRow_nil _ _ _ _⟩, HCB2.out⟩
  | true =>
    have HG := Lib.hid (HRR.out.1 (by first | rfl | trivial))
    obtain ⟨f1, f2⟩ := full_nat HG.out
    have hl7 : l.length ≤ 7 := by have := HG.out.2.1; have := HG.out.2.2.1; omega
    obtain ⟨X0, hX0⟩ : ∃ X0, X0 = 2 ^ l.length - 1 := ⟨_, rfl⟩
    have HE := Lib.hid (show elimR n l = takeO (elimF n l) 7 [] X0 by unfold elimR; rw [if_pos HG.out, hX0])
    rw [← hX0] at f1 f2
    have HX := Lib.hid f2
    have HCALL := Lib.hid (show Calls Tryd.prog 56 #[.agg #[.int .i64 n, .slice a l.length cap]] w2 fun e w' => e = .returned (.int .i64 (X0 : Int)) ∧ Below w2.heap.size w2 w' by
      rw [← f1]; exact allVertices_is n _ l w2 HCI2.out HG.out.1 HG.out.2.1)
    clear f1 f2 hX0
    go_wp2_with fail
    refine HCALL.out.mono ?_
    rintro e w3 ⟨rfl, hb⟩
    have HB3 := Lib.hid (HB2.out.trans (hb.mono cz))
    clear hb c0 c1 cz
    obtain ⟨c0, c1, cI, cB, cz⟩ := HA.out _ HB3.out
    have HCI3 := Lib.hid cI
    have HCB3 := Lib.hid cB
    obtain ⟨q, hq⟩ : ∃ q, q = w3.heap.size := ⟨_, rfl⟩
    obtain ⟨w4, hw4⟩ : ∃ w4, w4 = w3.alloc (.cells #[.int .i64 (X0 : Int)] 3) := ⟨_, rfl⟩
    have hb4 : Below w3.heap.size w3 w4 := by rw [hw4]; exact (Below.refl _ _).alloc (Nat.le_refl _) _
    have HQ := Lib.hid (show Boxed w4 q 3 (.int .i64 (X0 : Int)) by rw [hw4, hq]; exact Boxed.new w3 _ _)
    have HI4 := Lib.hid (HCI3.out.on hb4)
    have HQZ := Lib.hid (show w.heap.size + 1 ≤ q by rw [hq]; exact cz)
    have HBW := Lib.hid (HCB3.out.trans (hb4.mono HCB3.out.size))
    have HBX := Lib.hid (show BoxG w.heap.size n (.slice a l.length cap) w4 from ⟨(hb4.cell (p := ⟨w.heap.size, 0, none⟩) (by show w.heap.size < w3.heap.size; omega)).trans c0, (hb4.cell (p := ⟨w.heap.size, 1, none⟩) (by show w.heap.size < w3.heap.size; omega)).trans c1, by have := hb4.size; omega⟩)
    have HRULE := Lib.hid (elim_rule n (.slice a l.length cap) l q w.heap.size w4 HI4.out HG.out HBX.out (by have := HQZ.out; omega) (fun W ho => by
      have h1 : Below w.heap.size w W := HBW.out.trans (ho.below (by have := HQZ.out; omega) HBW.out.size)
      exact HI.out.on h1))
    clear cI cB c0 c1 cz hb4
    go_upto_region 4 with fail
    rw [← hw4, ← hq]
    clear hw4 hq
    go_wp2_with fail
    refine (takeIn_any _ _ enters_elim q l.length X0 (elimF n l) w4 hl7 HX.out HQ.out HRULE.out).mono ?_
    rintro e w5 ⟨vr, rfl, ho, hb⟩
    rw [← HE.out] at ho ⊢
    have HO := Lib.hid ho
    have HB5 := Lib.hid (HBW.out.trans (hb.mono HBW.out.size))
    have HZ5 := Lib.hid (show w.heap.size ≤ w4.heap.size from HBW.out.size)
    clear ho hb
    go_wp2
    refine bodyPost_ret (v := .tuple #[vr, .bool (outS (elimR n l))]) (by simp [results, Tryd.results50, go_sem]) rfl ?_
    exact ⟨_, rfl, HO.out.mono HZ5.out, HB5.out⟩

end Go.Proofs.YtpifgmmmmhenmabDoor
