/- Walks over IsOrder. -/
import Derived.Test.YtpifgmmmmhenmabDoorP1
namespace Go.Proofs.YtpifgmmmmhenmabDoor
set_option linter.unusedVariables false
set_option linter.unusedSimpArgs false
open Go.RowKit

/-- All vertices, each once. -/
def OrdP (n : Int) (lg l : List Int) : Prop := Dist n lg l ∧ (l.length : Int) = n

instance (n : Int) (lg l : List Int) : Decidable (OrdP n lg l) := by unfold OrdP; infer_instance

theorem pop_more (s : Int) (j : Nat) (h0 : 0 ≤ s) (h1 : s < 128) (hj : j < 7) (hb : bitAt s j = 0) : popN (s + 2 ^ j).toNat = popN s.toNat + 1 := by
  obtain ⟨m, rfl⟩ := Int.eq_ofNat_of_zero_le h0
  have : ∀ (m : Fin 128) (j : Fin 7), bitAt ((m.val : Nat) : Int) j.val = 0 → popN (((m.val : Nat) : Int) + 2 ^ j.val).toNat = popN (((m.val : Nat) : Int)).toNat + 1 := by decide +kernel
  exact this ⟨m, by omega⟩ ⟨j, hj⟩ hb

theorem setOf_pop (l : List Int) : ∀ (s0 s : Int), 0 ≤ s0 → s0 < 128 → setOf l s0 = some s → popN s.toNat = popN s0.toNat + l.length := by
  induction l with
  | nil =>
    intro s0 s h0 h1 h
    have : s0 = s := by simpa [setOf] using h
    subst this
    rfl
  | cons x t ih =>
    intro s0 s h0 h1 h
    have h3 : setOf (x :: t) s0 = if 0 ≤ x ∧ x ≤ 6 ∧ bitAt s0 x.toNat = 0 then setOf t (s0 + 2 ^ x.toNat) else none := rfl
    by_cases hx : 0 ≤ x ∧ x ≤ 6 ∧ bitAt s0 x.toNat = 0
    · rw [h3, if_pos hx] at h
      have hj : x.toNat < 7 := by omega
      have h4 := (set_small s0 x.toNat h0 h1 hj hx.2.2).2
      have h5 : (0 : Int) < 2 ^ x.toNat := Int.pow_pos (by decide)
      rw [ih _ _ (by omega) h4 h, pop_more s0 x.toNat h0 h1 hj hx.2.2, List.length_cons]
      omega
    · rw [h3, if_neg hx] at h
      cases h

theorem pop_all (n : Nat) (hn : n ≤ 7) (s : Nat) (hs : s < 2 ^ n) : popN s = n ↔ s = 2 ^ n - 1 := by
  have h7 : s < 128 := Nat.lt_of_lt_of_le hs (two_le n hn)
  have : ∀ (n : Fin 8) (s : Fin 128), s.val < 2 ^ n.val → (popN s.val = n.val ↔ s.val = 2 ^ n.val - 1) := by decide +kernel
  exact this ⟨n, by omega⟩ ⟨s, h7⟩ hs

theorem ord_iff {n : Int} {lg l : List Int} {s : Int} (hs : setOf l 0 = some s) (hg : IsG n lg) : s = 2 ^ n.toNat - 1 ↔ OrdP n lg l := by
  have hp := setOf_pop l 0 s (by omega) (by omega) hs
  have h0 : popN (0 : Int).toNat = 0 := by decide
  rw [h0, Nat.zero_add] at hp
  obtain ⟨b0, b1, -, -⟩ := setOf_bits l 0 s (by omega) (by omega) hs
  obtain ⟨m, rfl⟩ : ∃ m : Nat, n = m := ⟨n.toNat, by have := hg.1; omega⟩
  have hm : m ≤ 7 := by have := hg.2.1; omega
  obtain ⟨t, rfl⟩ := Int.eq_ofNat_of_zero_le b0
  rw [Int.toNat_natCast] at hp ⊢
  have h2 : ((2 ^ m : Nat) : Int) = (2 : Int) ^ m := by push_cast; rfl
  have h3 : 0 < 2 ^ m := Nat.pow_pos (by decide)
  refine ⟨fun h => ⟨⟨_, hs, hg, by omega, by rw [Int.toNat_natCast]; omega⟩, ?_⟩, fun h => ?_⟩
  · have ht : t = 2 ^ m - 1 := by omega
    have := (pop_all m hm t (by omega)).2 ht
    omega
  · obtain ⟨⟨s', h4, h5⟩, h6⟩ := h
    rw [hs] at h4
    obtain rfl := Option.some.inj h4
    have h7 := h5.2.2
    rw [Int.toNat_natCast] at h7
    have := (pop_all m hm t (by omega)).1 (by omega)
    omega

set_option maxHeartbeats 1000000 in
set_option maxRecDepth 100000 in
theorem specIsOrder (n : Int) (v vl : Value) (lg l : List Int) (w : World) (h : Ints w v lg) (hl : Ints w vl l) (hlen : l.length ≤ 1048576) :
    Calls Tryd.prog 43 #[.agg #[.int .i64 n, v], vl] w (SaysB (OrdP n lg l) w) := by
  obtain ⟨a, cap, rfl, -, -⟩ := h.form
  obtain ⟨al, capl, rfl, -, hml⟩ := hl.form
  have HA := argG' (T := 28) (n := n) h
  have HI := Lib.hid h
  have HL := Lib.hid hl
  unfold maxLen at hml
  clear h hl
  go_enter Tryd.func43, Tryd.ntmps43
  go_wp2_with fail
  refine (distinct_is n _ _ lg l _ (HI.out.alloc _) (HL.out.alloc _) hlen).mono ?_
  rintro e w1 ⟨r, rfl, hr, hb⟩
  have HB := Lib.hid (hb.mono (B' := w.heap.size + 1) (by simp))
  have HR := Lib.hid hr
  clear hb hr
  obtain ⟨c0, c1, -, cB, hz⟩ := HA.out _ HB.out
  have HCB := Lib.hid cB
  clear cB
  cases r with
  | false =>
    go_wp2
    go_ret
    exact SaysB.no (fun h => absurd (HR.out.2 h.1) (by decide)) HCB.out
  | true =>
    by_cases hc : (l.length : Int) = n
    · have d0 : ((l.length : Int) == n) = true := by simp [hc]
      have HC := Lib.hid hc
      clear hc
      go_wp2
      go_ret
      exact SaysB.yes ⟨HR.out.1 (by first | rfl | trivial), HC.out⟩ HCB.out
    · have d0 : ((l.length : Int) == n) = false := by simp [hc]
      have HC := Lib.hid hc
      clear hc
      go_wp2
      go_ret
      exact SaysB.no (fun h => HC.out h.2) HCB.out

set_option maxHeartbeats 1000000 in
set_option maxRecDepth 100000 in
theorem implIsOrder (n : Int) (v vl : Value) (lg l : List Int) (w : World) (h : Ints w v lg) (hl : Ints w vl l) (hlen : l.length ≤ 1048576) :
    Calls Tryd.prog 45 #[.agg #[.int .i64 n, v], vl] w (SaysB (OrdP n lg l) w) := by
  obtain ⟨a, cap, rfl, -, -⟩ := h.form
  have HA := argG' (T := 28) (n := n) h
  have HL := Lib.hid hl
  clear h hl
  go_enter Tryd.func45, Tryd.ntmps45
  go_wp2_with fail
  refine (implSetOf _ l _ (HL.out.alloc _) (by omega)).mono ?_
  rintro e w1 ⟨rfl, hb⟩
  have HB := Lib.hid (hb.mono (B' := w.heap.size + 1) (by simp))
  clear hb
  obtain ⟨c0, c1, cI, cB, hz⟩ := HA.out _ HB.out
  have HI := Lib.hid cI
  have HCB := Lib.hid cB
  clear cI cB
  cases hs : setOf l 0 with
  | none =>
    have HN := Lib.hid (show ¬ OrdP n lg l from fun ⟨⟨s, h, _⟩, _⟩ => by rw [hs] at h; cases h)
    have b0 : outB (none : Option Int) = false := rfl
    clear hs
    go_wp2
    go_ret
    exact SaysB.no HN.out HCB.out
  | some s =>
    have HS := Lib.hid hs
    have b0 : outB (some s) = true := rfl
    have b1 : outI (some s) = s := rfl
    clear hs
    go_wp2_with fail
    refine (implIsG_any n _ lg _ HI.out).mono ?_
    rintro e w2 ⟨r, rfl, hr, hb⟩
    have HB2 := Lib.hid (HB.out.trans (hb.mono hz))
    have HR := Lib.hid hr
    clear hb hr c0 c1 hz HI
    obtain ⟨c0, c1, cI, cB, hz⟩ := HA.out _ HB2.out
    have HI := Lib.hid cI
    have HCB2 := Lib.hid cB
    clear cI cB
    cases r with
    | false =>
      go_wp2
      go_ret
      exact SaysB.no (fun h => absurd (HR.out.2 h.1.graph) (by decide)) HCB2.out
    | true =>
      have HG := Lib.hid (HR.out.1 (by first | rfl | trivial))
      go_wp2_with fail
      refine (allVertices_is n _ lg _ HI.out HG.out.1 HG.out.2.1).mono ?_
      rintro e w3 ⟨rfl, hb⟩
      have HB3 := Lib.hid (HCB2.out.trans (hb.mono HCB2.out.size))
      have HO := Lib.hid (ord_iff HS.out HG.out)
      clear hb c0 c1 hz
      obtain ⟨M, hM⟩ : ∃ M : Int, M = 2 ^ n.toNat - 1 := ⟨_, rfl⟩
      rw [← hM] at HO ⊢
      clear hM
      by_cases hc : s = M
      · have d0 : (s == M) = true := by simp [hc]
        have HC := Lib.hid (HO.out.1 hc)
        clear hc
        go_wp2
        go_ret
        exact SaysB.yes HC.out HB3.out
      · have d0 : (s == M) = false := by simp [hc]
        have HC := Lib.hid hc
        clear hc
        go_wp2
        go_ret
        exact SaysB.no (fun h => HC.out (HO.out.2 h)) HB3.out

end Go.Proofs.YtpifgmmmmhenmabDoor
