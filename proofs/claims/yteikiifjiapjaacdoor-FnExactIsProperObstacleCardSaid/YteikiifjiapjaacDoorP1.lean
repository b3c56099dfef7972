/- Patterns: lists of vertices of a graph, and which of them have to be neighbours. -/
import Derived.Test.YteikiifjiapjaacDoorH2
import Derived.Test.YteikiifjiapjaacDoorG8
import Derived.Test.YteikiifjiapjaacDoorB
namespace Go.Proofs.YteikiifjiapjaacDoor
set_option linter.unusedVariables false
set_option linter.unusedSimpArgs false
open Go.RowKit

theorem bit_more (s : Int) (j k : Nat) (h0 : 0 ≤ s) (h1 : s < 128) (hj : j < 7) (hk : k < 7) (hb : bitAt s j = 0) : bitAt (s + 2 ^ j) k = if k = j then 1 else bitAt s k := by
  obtain ⟨m, rfl⟩ := Int.eq_ofNat_of_zero_le h0
  have : ∀ (m : Fin 128) (j k : Fin 7), bitAt ((m.val : Nat) : Int) j.val = 0 → bitAt (((m.val : Nat) : Int) + 2 ^ j.val) k.val = if k.val = j.val then 1 else bitAt ((m.val : Nat) : Int) k.val := by decide +kernel
  exact this ⟨m, by omega⟩ ⟨j, hj⟩ ⟨k, hk⟩ hb

theorem setOf_bits (l : List Int) : ∀ (s0 s : Int), 0 ≤ s0 → s0 < 128 → setOf l s0 = some s → 0 ≤ s ∧ s < 128 ∧ (∀ k, k < 7 → bitAt s0 k = 1 → bitAt s k = 1) ∧ ∀ i, i < l.length → 0 ≤ nth l i ∧ nth l i ≤ 6 ∧ bitAt s (nth l i).toNat = 1 := by
  induction l with
  | nil =>
    intro s0 s h0 h1 h
    have : s0 = s := by simpa [setOf] using h
    subst this
    exact ⟨h0, h1, fun _ _ h => h, fun i hi => by simp at hi⟩
  | cons x t ih =>
    intro s0 s h0 h1 h
    by_cases hx : 0 ≤ x ∧ x ≤ 6 ∧ bitAt s0 x.toNat = 0
    · have h2 : setOf t (s0 + 2 ^ x.toNat) = some s := by
        have h3 : setOf (x :: t) s0 = if 0 ≤ x ∧ x ≤ 6 ∧ bitAt s0 x.toNat = 0 then setOf t (s0 + 2 ^ x.toNat) else none := rfl
        rw [h3, if_pos hx] at h
        exact h
      have hj : x.toNat < 7 := by omega
      have h4 := (set_small s0 x.toNat h0 h1 hj hx.2.2).2
      have h5 : (0 : Int) < 2 ^ x.toNat := Int.pow_pos (by decide)
      obtain ⟨a, b, c, d⟩ := ih _ _ (by omega) h4 h2
      refine ⟨a, b, fun k hk hb => c k hk ?_, fun i hi => ?_⟩
      · rw [bit_more s0 x.toNat k h0 h1 hj hk hx.2.2]
        split
        · rfl
        · exact hb
      · cases i with
        | zero =>
          refine ⟨hx.1, hx.2.1, c x.toNat hj ?_⟩
          rw [bit_more s0 x.toNat x.toNat h0 h1 hj hj hx.2.2, if_pos rfl]
        | succ i => exact d i (by simpa using hi)
    · exfalso
      have h3 : setOf (x :: t) s0 = if 0 ≤ x ∧ x ≤ 6 ∧ bitAt s0 x.toNat = 0 then setOf t (s0 + 2 ^ x.toNat) else none := rfl
      rw [h3, if_neg hx] at h
      cases h

/-- Different vertices of a graph. -/
def Dist (n : Int) (lg l : List Int) : Prop := ∃ s, setOf l 0 = some s ∧ IsS n lg s

instance (n : Int) (lg l : List Int) : Decidable (Dist n lg l) :=
  match h : setOf l 0 with
  | some s => if h2 : IsS n lg s then isTrue ⟨s, h, h2⟩ else isFalse fun ⟨s', h', h2'⟩ => h2 (by rw [h] at h'; obtain rfl := Option.some.inj h'; exact h2')
  | none => isFalse fun ⟨s', h', _⟩ => by rw [h] at h'; cases h'

def kl (l : List Int) (i : Nat) : Nat := (nth l i).toNat

theorem Dist.at {n : Int} {lg l : List Int} (h : Dist n lg l) {i : Nat} (hi : i < l.length) : nth l i = (kl l i : Int) ∧ kl l i < lg.length ∧ kl l i < 7 := by
  obtain ⟨s, h1, h2⟩ := h
  obtain ⟨a, b, -, d⟩ := setOf_bits l 0 s (by omega) (by omega) h1
  obtain ⟨d1, d2, d3⟩ := d i hi
  have hn := h2.nat
  rw [hn.1] at d3
  have := bit_lt hn.2.1 ((bitAt_nat s.toNat (nth l i).toNat).1 d3)
  unfold kl
  omega

theorem Dist.graph {n : Int} {lg l : List Int} (h : Dist n lg l) : IsG n lg := by
  obtain ⟨s, -, h2⟩ := h
  exact h2.1

/-- A list with a pattern. -/
def HasPat (n : Int) (lg l : List Int) (pat : Nat → Nat → Bool) : Prop := Dist n lg l ∧ ∀ j, j < l.length → ∀ i, i < j → edB lg (kl l i) (kl l j) = pat i j

instance (n : Int) (lg l : List Int) (pat : Nat → Nat → Bool) : Decidable (HasPat n lg l pat) := by unfold HasPat; infer_instance

set_option maxHeartbeats 1000000 in
set_option maxRecDepth 100000 in
theorem distinct_is (n : Int) (v vl : Value) (lg l : List Int) (w : World) (h : Ints w v lg) (hl : Ints w vl l) (hlen : l.length ≤ 1048576) :
    Calls Tryd.prog 106 #[.agg #[.int .i64 n, v], vl] w (SaysB (Dist n lg l) w) := by
  obtain ⟨a, cap, rfl, -, -⟩ := h.form
  have HA := argG' (T := 26) (n := n) h
  have HL := Lib.hid hl
  clear h hl
  go_enter Tryd.func106, Tryd.ntmps106
  go_wp2_with fail
  refine (specSetOf _ l _ (HL.out.alloc _) (by omega)).mono ?_
  rintro e w1 ⟨rfl, hb⟩
  have HB := Lib.hid (hb.mono (B' := w.heap.size + 1) (by simp))
  clear hb
  obtain ⟨c0, c1, cI, -, hz⟩ := HA.out _ HB.out
  have HI := Lib.hid cI
  clear cI
  go_wp2_with fail
  refine (specIsG_any n _ lg _ HI.out).mono ?_
  rintro e w2 ⟨r, rfl, hr, hb⟩
  have HB2 := Lib.hid (HB.out.trans (hb.mono hz))
  clear hb c0 c1 hz HI
  obtain ⟨c0, c1, cI, cB, hz⟩ := HA.out _ HB2.out
  have HI := Lib.hid cI
  have HCB := Lib.hid cB
  clear cI cB
  cases r with
  | false =>
    have HN := Lib.hid (show ¬ Dist n lg l from fun h => absurd (hr.2 h.graph) (by decide))
    clear hr
    go_wp2
    go_ret
    exact SaysB.no HN.out HCB.out
  | true =>
    cases hs : setOf l 0 with
    | none =>
      have HN := Lib.hid (show ¬ Dist n lg l from fun ⟨s, h, _⟩ => by rw [hs] at h; cases h)
      have b0 : outB (none : Option Int) = false := rfl
      clear hr hs
      go_wp2
      go_ret
      exact SaysB.no HN.out HCB.out
    | some s =>
      have HS := Lib.hid hs
      have b0 : outB (some s) = true := rfl
      have b1 : outI (some s) = s := rfl
      clear hr hs
      go_wp2_with fail
      refine (specIsSet n _ lg s _ HI.out).mono ?_
      rintro e w3 ⟨r, rfl, hr, hb⟩
      have HB3 := Lib.hid (HCB.out.trans (hb.mono HCB.out.size))
      have HR := Lib.hid hr
      clear hb hr c0 c1 hz
      cases r with
      | false =>
        go_wp2
        go_ret
        exact SaysB.no (fun ⟨s', h, h2⟩ => by rw [HS.out] at h; obtain rfl := Option.some.inj h; exact absurd (HR.out.2 h2) (by decide)) HB3.out
      | true =>
        go_wp2
        go_ret
        exact SaysB.yes ⟨s, HS.out, HR.out.1 (by first | rfl | trivial)⟩ HB3.out

set_option maxHeartbeats 4000000 in
set_option maxRecDepth 100000 in
theorem hasPattern_any (f : FuncId) (cp : Array Value) (pat : Nat → Nat → Bool) (n : Int) (v vl : Value) (lg l : List Int) (w : World) (h : Ints w v lg) (hl : Ints w vl l) (hlen : l.length ≤ 1048576) (he : Enters f) (hr : Rule f cp l.length pat w) :
    Calls Tryd.prog 131 #[.agg #[.int .i64 n, v], vl, .func (.func f) #[] cp] w (SaysB (HasPat n lg l pat) w) := by
  obtain ⟨a, cap, rfl, -, -⟩ := h.form
  obtain ⟨al, capl, rfl, -, hml⟩ := hl.form
  have HA := argG' (T := 26) (n := n) h
  have HL := Lib.hid hl
  have HRU := Lib.hid hr
  unfold maxLen at hml
  clear h hl hr
  unfold Enters at he
  go_enter Tryd.func131, Tryd.ntmps131
  go_wp2_with fail
  refine (implSetOf _ l _ (HL.out.alloc _) (by omega)).mono ?_
  rintro e w1 ⟨rfl, hb⟩
  have HB := Lib.hid (hb.mono (B' := w.heap.size + 1) (by simp))
  clear hb
  obtain ⟨c0, c1, cI, cB, hz⟩ := HA.out _ HB.out
  have HI := Lib.hid cI
  have HCB := Lib.hid cB
  clear cI cB
  cases hs : setOf l 0 with
  | none =>
    have HN := Lib.hid (show ¬ HasPat n lg l pat from fun ⟨⟨s, h, _⟩, _⟩ => by rw [hs] at h; cases h)
    have b0 : outB (none : Option Int) = false := rfl
    clear hs
    go_wp2
    go_ret
    exact SaysB.no HN.out HCB.out
  | some s =>
    have HS := Lib.hid hs
    have b0 : outB (some s) = true := rfl
    have b1 : outI (some s) = s := rfl
    clear hs
    go_wp2_with fail
    refine (implIsSet n _ lg s _ HI.out).mono ?_
    rintro e w2 ⟨r, rfl, hr, hb⟩
    have HB2 := Lib.hid (HB.out.trans (hb.mono hz))
    have HCB2 := Lib.hid (HCB.out.trans (hb.mono HCB.out.size))
    have HR := Lib.hid hr
    clear hb hr c0 c1 hz HI b0 b1
    cases r with
    | false =>
      go_wp2
      go_ret
      exact SaysB.no (fun ⟨⟨s', h, h2⟩, _⟩ => by rw [HS.out] at h; obtain rfl := Option.some.inj h; exact absurd (HR.out.2 h2) (by decide)) HCB2.out
    | true =>
      have HD := Lib.hid (show Dist n lg l from ⟨s, HS.out, HR.out.1 rfl⟩)
      clear HR HS
      go_wp2
      go_loopw [26] (fun x wr => ∃ j : Nat, j ≤ l.length ∧ x = .int .i64 j ∧ Hid (∀ b, b < j → ∀ a, a < b → edB lg (kl l a) (kl l b) = pat a b) ∧ Below (w.heap.size + 1) (w.alloc (.cells #[.int .i64 n, .slice a lg.length cap] 26)) wr) (fun x _ => l.length - (intOf x).toNat)
      case atStart => exact ⟨0, by omega, rfl, fun b hb => absurd hb (by omega), HB2.out⟩
      case round =>
        obtain ⟨j, hj, rfl, HJ, hbel⟩ := hrel
        by_cases hlt : j < l.length
        · have HBL := Lib.hid hbel
          clear hbel
          go_wp2
          go_loopw [30] (fun x wr => ∃ i : Nat, i ≤ j ∧ x = .int .i64 i ∧ Hid (∀ a, a < i → edB lg (kl l a) (kl l j) = pat a j) ∧ Below (w.heap.size + 1) (w.alloc (.cells #[.int .i64 n, .slice a lg.length cap] 26)) wr) (fun x _ => j - (intOf x).toNat)
          case atStart => exact ⟨0, by omega, rfl, fun a ha => absurd ha (by omega), HBL.out⟩
          case round =>
            clear HBL
            obtain ⟨i, hi, rfl, HII, hbel⟩ := hrel
            obtain ⟨c0, c1, cI, cB, hz⟩ := HA.out _ hbel
            by_cases hij : i < j
            · have hil : i < l.length := by omega
              obtain ⟨k1, k2, k3⟩ := HD.out.at hil
              obtain ⟨k4, k5, k6⟩ := HD.out.at hlt
              obtain ⟨b, off, cap', hv, _, hmx, hb, hcell⟩ := (HL.out.on cB).pos (by omega)
              simp only [Value.slice.injEq] at hv
              obtain ⟨rfl, -, rfl⟩ := hv
              have e0 := hcell i (by omega)
              have e1 := hcell j hlt
              rw [k1] at e0
              rw [k4] at e1
              obtain ⟨be, hbe⟩ : ∃ be, be = edB lg (kl l i) (kl l j) := ⟨_, rfl⟩
              obtain ⟨bp, hbp⟩ : ∃ bp, bp = pat i j := ⟨_, rfl⟩
              have HE := Lib.hid hbe
              have HP := Lib.hid hbp
              obtain ⟨ki, hki⟩ : ∃ ki, ki = kl l i := ⟨_, rfl⟩
              obtain ⟨kj, hkj⟩ : ∃ kj, kj = kl l j := ⟨_, rfl⟩
              have HC1 : Hid (∀ W, Ints W (.slice a lg.length cap) lg → Calls Tryd.prog 65 #[.agg #[.int .i64 n, .slice a lg.length cap], .int .i64 ki, .int .i64 kj] W fun e w' => e = .returned (.bool be) ∧ Below W.heap.size W w') := fun W h => by
                rw [hbe, hki, hkj]
                exact areJoined_is n _ lg _ _ W h k2 (by omega)
              have HC2 : Hid (∀ W, Below w.heap.size w W → Calls Tryd.prog f (#[.int .i64 i, .int .i64 j] ++ cp) W fun e w' => e = .returned (.bool bp) ∧ Below W.heap.size W w') := fun W h => by
                rw [hbp]
                exact HRU.out W i j hij hlt h
              have HST : Hid (∀ W, Below wr.heap.size wr W → W.cell? ⟨w.heap.size, 0, none⟩ = some (.int .i64 n) ∧ W.cell? ⟨w.heap.size, 1, none⟩ = some (.slice a lg.length cap) ∧ W.cell? ⟨b, off + i, none⟩ = some (.int .i64 ki) ∧ W.cell? ⟨b, off + j, none⟩ = some (.int .i64 kj) ∧ Ints W (.slice a lg.length cap) lg ∧ Below w.heap.size w W ∧ Below wr.heap.size wr W) := fun W hW => by
                refine ⟨(hW.cell (p := ⟨w.heap.size, 0, none⟩) hz).trans c0, (hW.cell (p := ⟨w.heap.size, 1, none⟩) hz).trans c1, ?_, ?_, cI.on hW, cB.trans (hW.mono cB.size), hW⟩
                · rw [hki]; exact (hW.cell (p := ⟨b, off + i, none⟩) hb).trans e0
                · rw [hkj]; exact (hW.cell (p := ⟨b, off + j, none⟩) hb).trans e1
              have HBL := Lib.hid hbel
              unfold maxLen at hmx
              rw [← hki] at e0
              rw [← hkj] at e1
              clear hcell hbel cI cB hbe hbp hki hkj k1 k2 k3 k4 k5 k6 e0 e1 c0 c1
              by_cases hbb : be = bp
              · subst hbb
                have q1 : (be != be) = false := by simp
                go_wp2
                go_region_held3 (fun W => W.cell? ⟨w.heap.size, 0, none⟩ = some (.int .i64 n) ∧ W.cell? ⟨w.heap.size, 1, none⟩ = some (.slice a lg.length cap) ∧ W.cell? ⟨b, off + i, none⟩ = some (.int .i64 ki) ∧ W.cell? ⟨b, off + j, none⟩ = some (.int .i64 kj) ∧ Ints W (.slice a lg.length cap) lg ∧ Below w.heap.size w W ∧ Below wr.heap.size wr W)
                  (first | exact HST.out _ (Below.refl _ _).drew | exact HST.out _ (Below.refl _ _) | (go_split_ands; exact HST.out _ (btrans (by assumption) hb)))
                  (first
                    | (go_at_call 65; go_split_ands; refine (HC1.out _ (by assumption)).mono ?_; rintro e wz ⟨rfl, hb⟩)
                    | (go_split_ands; refine (HC2.out _ (by assumption)).mono ?_; rintro e wz ⟨rfl, hb⟩))
                go_split_ands
                have HW := Lib.hid (show Below wr.heap.size wr wz by assumption)
                go_wp2
                go_roundw
                case rel =>
                  refine ⟨i + 1, by omega, by go_num, fun a ha => ?_, HBL.out.trans (HW.out.mono hz)⟩
                  rcases Nat.lt_or_ge a i with h | h
                  · exact HII.out a h
                  · obtain rfl : a = i := by omega
                    rw [← HE.out, ← HP.out]
                case measure => simp [intOf]; omega
              · have HBB := Lib.hid hbb
                obtain rfl : bp = !be := by cases be <;> cases bp <;> simp_all
                have q1 : (be != !be) = true := by cases be <;> rfl
                have q2 : (be ^^ !be) = true := by cases be <;> rfl
                clear hbb
                go_wp2
                go_region_held3 (fun W => W.cell? ⟨w.heap.size, 0, none⟩ = some (.int .i64 n) ∧ W.cell? ⟨w.heap.size, 1, none⟩ = some (.slice a lg.length cap) ∧ W.cell? ⟨b, off + i, none⟩ = some (.int .i64 ki) ∧ W.cell? ⟨b, off + j, none⟩ = some (.int .i64 kj) ∧ Ints W (.slice a lg.length cap) lg ∧ Below w.heap.size w W ∧ Below wr.heap.size wr W)
                  (first | exact HST.out _ (Below.refl _ _).drew | exact HST.out _ (Below.refl _ _) | (go_split_ands; exact HST.out _ (btrans (by assumption) hb)))
                  (first
                    | (go_at_call 65; go_split_ands; refine (HC1.out _ (by assumption)).mono ?_; rintro e wz ⟨rfl, hb⟩)
                    | (go_split_ands; refine (HC2.out _ (by assumption)).mono ?_; rintro e wz ⟨rfl, hb⟩))
                go_split_ands
                have HW := Lib.hid (show Below w.heap.size w wz by assumption)
                go_wp2
                go_ret
                exact SaysB.no (fun hg => HBB.out (HE.out.trans ((hg.2 j hlt i hij).trans HP.out.symm))) HW.out
            · obtain rfl : i = j := by omega
              have HBL := Lib.hid hbel
              clear hbel cI cB c0 c1 hz
              go_wp2
              go_roundw
              case rel =>
                refine ⟨i + 1, by omega, by go_num, fun b hb a ha => ?_, HBL.out⟩
                rcases Nat.lt_or_ge b i with h | h
                · exact HJ.out b h a ha
                · obtain rfl : b = i := by omega
                  exact HII.out a ha
              case measure => simp [intOf]; omega
        · obtain rfl : j = l.length := by omega
          have HC := Lib.hid (HA.out _ hbel).2.2.2.1
          clear hbel
          go_wp2
          go_ret
          exact SaysB.yes ⟨HD.out, HJ.out⟩ HC.out

end Go.Proofs.YteikiifjiapjaacDoor
