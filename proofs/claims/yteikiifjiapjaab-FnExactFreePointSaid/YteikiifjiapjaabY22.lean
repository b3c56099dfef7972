/- Arcs of a circle: FreePoint. -/
import Derived.Test.YteikiifjiapjaabY21
namespace Go.Proofs.Yteikiifjiapjaab
set_option linter.unusedVariables false
set_option linter.unusedSimpArgs false
open Go.RowKit

/-- The first point of those from t on, k of them, that lies in no arc. -/
def freeF (n : Int) (l m : List Int) : Nat → Nat → Option Nat
  | _, 0 => none
  | t, k + 1 => if arcR n l m (t : Int) = 0 then some t else freeF n l m (t + 1) k

def freeO (n : Int) (l m : List Int) : Option Nat := if ArcsP n l m then freeF n l m 0 n.toNat else none

def optV : Option Nat → Int
  | some t => (t : Int)
  | none => 0

def freeV (n : Int) (l m : List Int) : Int := optV (freeO n l m)
def freeB (n : Int) (l m : List Int) : Bool := (freeO n l m).isSome

theorem free_v {n : Int} {l m : List Int} {o : Option Nat} (h : freeO n l m = o) : freeV n l m = optV o ∧ freeB n l m = o.isSome := by
  unfold freeV freeB; rw [h]; exact ⟨rfl, rfl⟩

set_option maxHeartbeats 2000000 in
set_option maxRecDepth 100000 in
theorem implFree (n : Int) (v u : Value) (l m : List Int) (w : World) (h : Ints w v l) (g : Ints w u m) (hl : l.length ≤ 1048576) (hm : m.length ≤ 1048576) :
    Calls Try.prog 67 #[.agg #[.int .i64 n, v, u]] w fun e w' => e = .returned (.tuple #[.int .i64 (freeV n l m), .bool (freeB n l m)]) ∧ Below w.heap.size w w' := by
  obtain ⟨ad, cap, rfl, -, -⟩ := h.form
  obtain ⟨bd, cap', rfl, -, -⟩ := g.form
  have HI := Lib.hid h
  have HJ := Lib.hid g
  clear h g
  have F0 := Lib.hid (show Below w.heap.size w (w.alloc (.cells #[.int .i64 n, .slice ad l.length cap, .slice bd m.length cap'] 80)) from (Below.refl _ w).alloc (Nat.le_refl _) _)
  have A0 := Lib.hid (show Box w.heap.size [.int .i64 n, .slice ad l.length cap, .slice bd m.length cap'] (w.alloc (.cells #[.int .i64 n, .slice ad l.length cap, .slice bd m.length cap'] 80)) from Box.new w _ _)
  have HV := Lib.hid (fun (o : Option Nat) (h : freeO n l m = o) => free_v h)
  obtain ⟨V, hV⟩ : ∃ V, V = freeV n l m := ⟨_, rfl⟩
  obtain ⟨B, hB⟩ : ∃ B, B = freeB n l m := ⟨_, rfl⟩
  rw [← hV, ← hB] at HV ⊢
  clear hV hB
  go_enter Try.func67, Try.ntmps67
  go_wp2_with fail
  refine (implIsArcs n _ _ l m _ (HI.out.on F0.out) (HJ.out.on F0.out) hl hm).mono ?_
  rintro e w1 ⟨r, rfl, hr, hb⟩
  have HR := Lib.hid hr
  have HW1 := Lib.hid (F0.out.trans (hb.mono F0.out.size))
  have A1 := Lib.hid (A0.out.on hb)
  have x0 : w1.cell? ⟨w.heap.size, 0, none⟩ = some (.int .i64 n) := (A0.out.on hb).1 0 _ rfl
  have hz : w.heap.size < w1.heap.size := by have := hb.size; simp at this; omega
  clear hr hb
  cases r with
  | false =>
    have HN := Lib.hid (HV.out none (by unfold freeO; rw [if_neg (fun h => absurd (HR.out.2 h) (by decide))]))
    go_wp2
    go_ret2
    exact ⟨by rw [HN.out.1, HN.out.2] <;> rfl, HW1.out⟩
  | true =>
    have HP := Lib.hid (HR.out.1 (by first | rfl | trivial))
    obtain ⟨N, rfl⟩ : ∃ N : Nat, n = (N : Int) := ⟨n.toNat, by have := HP.out.1.1; omega⟩
    have HN30 := Lib.hid (show (N : Int) ≤ 30 from HP.out.1.2)
    have HO := Lib.hid (show freeO (N : Int) l m = freeF (N : Int) l m 0 N by unfold freeO; rw [if_pos HP.out]; rfl)
    go_wp2
    go_loopw [10] (fun i wr => ∃ t : Nat, t ≤ N ∧ i = .int .i64 t ∧ Below w1.heap.size w1 wr ∧ Hid (freeF (N : Int) l m 0 N = freeF (N : Int) l m t (N - t))) (fun i _ => N - (intOf i).toNat)
    case atStart => exact ⟨0, by omega, rfl, Below.refl _ _, rfl⟩
    case round =>
      obtain ⟨t, ht, rfl, hbel, HF⟩ := hrel
      have HB0 := Lib.hid (HW1.out.trans (hbel.mono (by omega)))
      have HBL := Lib.hid hbel
      have x0 : wr.cell? ⟨w.heap.size, 0, none⟩ = some (.int .i64 (N : Int)) := (A1.out.on hbel).1 0 _ rfl
      have x1 : wr.cell? ⟨w.heap.size, 1, none⟩ = some (.slice ad l.length cap) := (A1.out.on hbel).1 1 _ rfl
      have x2 : wr.cell? ⟨w.heap.size, 2, none⟩ = some (.slice bd m.length cap') := (A1.out.on hbel).1 2 _ rfl
      have ht30 : (t : Int) ≤ 30 := by have := HN30.out; omega
      by_cases hlt : t < N
      · clear hbel
        go_wp2_with fail
        refine (implArcsAt (N : Int) _ _ l m (t : Int) _ (HI.out.on HB0.out) (HJ.out.on HB0.out) hl hm).mono ?_
        rintro e w5 ⟨rfl, hb5⟩
        have HB5 := Lib.hid (HBL.out.trans (hb5.mono HBL.out.size))
        have HW5 := Lib.hid (HB0.out.trans (hb5.mono HB0.out.size))
        clear hb5 x0 x1 x2
        have HS := Lib.hid (show freeF (N : Int) l m t (N - t) = if arcR (N : Int) l m (t : Int) = 0 then some t else freeF (N : Int) l m (t + 1) (N - (t + 1)) by rw [show N - t = (N - (t + 1)) + 1 by omega]; rfl)
        obtain ⟨X, hX⟩ : ∃ X, X = arcR (N : Int) l m (t : Int) := ⟨_, rfl⟩
        rw [← hX] at HS ⊢
        clear hX
        by_cases hx : X = 0
        · have d0 : (X == 0) = true := by simp [hx]
          have HE := Lib.hid (HV.out (some t) (by rw [HO.out, HF.out, HS.out, if_pos hx]))
          clear hx
          go_wp2
          go_ret2
          exact ⟨by rw [HE.out.1, HE.out.2] <;> rfl, HW5.out⟩
        · have d0 : (X == 0) = false := by simp [hx]
          have HE := Lib.hid (show freeF (N : Int) l m 0 N = freeF (N : Int) l m (t + 1) (N - (t + 1)) by rw [HF.out, HS.out, if_neg hx])
          clear hx
          go_wp2
          go_roundw
          case rel => exact ⟨t + 1, by omega, by go_num, HB5.out, HE.out⟩
          case measure => simp [intOf]; omega
      · obtain rfl : t = N := by omega
        have HE := Lib.hid (HV.out none (by rw [HO.out, HF.out, Nat.sub_self]; rfl))
        go_wp2
        go_ret2
        exact ⟨by rw [HE.out.1, HE.out.2] <;> rfl, HB0.out⟩

set_option maxHeartbeats 2000000 in
set_option maxRecDepth 100000 in
theorem specFree (n : Int) (v u : Value) (l m : List Int) (w : World) (h : Ints w v l) (g : Ints w u m) (hl : l.length ≤ 1048576) (hm : m.length ≤ 1048576) :
    Calls Try.prog 66 #[.agg #[.int .i64 n, v, u]] w fun e w' => e = .returned (.tuple #[.int .i64 (freeV n l m), .bool (freeB n l m)]) ∧ Below w.heap.size w w' := by
  obtain ⟨ad, cap, rfl, -, -⟩ := h.form
  obtain ⟨bd, cap', rfl, -, -⟩ := g.form
  have HI := Lib.hid h
  have HJ := Lib.hid g
  clear h g
  have F0 := Lib.hid (show Below w.heap.size w (w.alloc (.cells #[.int .i64 n, .slice ad l.length cap, .slice bd m.length cap'] 80)) from (Below.refl _ w).alloc (Nat.le_refl _) _)
  have A0 := Lib.hid (show Box w.heap.size [.int .i64 n, .slice ad l.length cap, .slice bd m.length cap'] (w.alloc (.cells #[.int .i64 n, .slice ad l.length cap, .slice bd m.length cap'] 80)) from Box.new w _ _)
  have HV := Lib.hid (fun (o : Option Nat) (h : freeO n l m = o) => free_v h)
  obtain ⟨V, hV⟩ : ∃ V, V = freeV n l m := ⟨_, rfl⟩
  obtain ⟨B, hB⟩ : ∃ B, B = freeB n l m := ⟨_, rfl⟩
  rw [← hV, ← hB] at HV ⊢
  clear hV hB
  have HO := Lib.hid (show ArcsP n l m → freeO n l m = freeF n l m 0 n.toNat from fun h => by unfold freeO; rw [if_pos h])
  have HO2 := Lib.hid (show ¬ ArcsP n l m → freeO n l m = none from fun h => by unfold freeO; rw [if_neg h])
  go_enter Try.func66, Try.ntmps66
  go_wp2
  go_loopw [4] (fun i wr => ∃ t : Nat, t ≤ n.toNat ∧ i = .int .i64 t ∧ Below (w.alloc (.cells #[.int .i64 n, .slice ad l.length cap, .slice bd m.length cap'] 80)).heap.size (w.alloc (.cells #[.int .i64 n, .slice ad l.length cap, .slice bd m.length cap'] 80)) wr ∧ Hid (freeF n l m 0 n.toNat = freeF n l m t (n.toNat - t)) ∧ Hid (0 < t → ArcsP n l m)) (fun i _ => n.toNat - (intOf i).toNat)
  case atStart => exact ⟨0, by omega, rfl, Below.refl _ _, rfl, fun h => absurd h (by omega)⟩
  case round =>
    obtain ⟨t, ht, rfl, hbel, HF, HPOS⟩ := hrel
    have HB0 := Lib.hid (F0.out.trans (hbel.mono F0.out.size))
    have HBL := Lib.hid hbel
    have x0 : wr.cell? ⟨w.heap.size, 0, none⟩ = some (.int .i64 n) := (A0.out.on hbel).1 0 _ rfl
    have x1 : wr.cell? ⟨w.heap.size, 1, none⟩ = some (.slice ad l.length cap) := (A0.out.on hbel).1 1 _ rfl
    have x2 : wr.cell? ⟨w.heap.size, 2, none⟩ = some (.slice bd m.length cap') := (A0.out.on hbel).1 2 _ rfl
    by_cases hlt : (t : Int) < n
    · have d0 : decide ((t : Int) < n) = true := decide_eq_true hlt
      clear hbel
      go_wp2_with fail
      refine (specIsArcs n _ _ l m _ (HI.out.on HB0.out) (HJ.out.on HB0.out) hl hm).mono ?_
      rintro e w3 ⟨r, rfl, hr, hb3⟩
      have HRR := Lib.hid hr
      have HB3 := Lib.hid (HBL.out.trans (hb3.mono HBL.out.size))
      have HW3 := Lib.hid (F0.out.trans (HB3.out.mono F0.out.size))
      clear hr hb3 x0 x1 x2
      have x0 : w3.cell? ⟨w.heap.size, 0, none⟩ = some (.int .i64 n) := (A0.out.on HB3.out).1 0 _ rfl
      have x1 : w3.cell? ⟨w.heap.size, 1, none⟩ = some (.slice ad l.length cap) := (A0.out.on HB3.out).1 1 _ rfl
      have x2 : w3.cell? ⟨w.heap.size, 2, none⟩ = some (.slice bd m.length cap') := (A0.out.on HB3.out).1 2 _ rfl
      cases r with
      | false =>
        have HE := Lib.hid (HV.out none (HO2.out (fun h => absurd (HRR.out.2 h) (by decide))))
        go_wp2
        go_ret2
        exact ⟨by rw [HE.out.1, HE.out.2] <;> rfl, HW3.out⟩
      | true =>
        have HP := Lib.hid (HRR.out.1 (by first | rfl | trivial))
        have hn30 : n ≤ 30 := HP.out.1.2
        go_wp2_with fail
        refine (specArcsAt n _ _ l m (t : Int) _ (HI.out.on HW3.out) (HJ.out.on HW3.out) hl hm).mono ?_
        rintro e w5 ⟨rfl, hb5⟩
        have HB5 := Lib.hid (HB3.out.trans (hb5.mono HB3.out.size))
        have HW5 := Lib.hid (HW3.out.trans (hb5.mono HW3.out.size))
        clear hb5 x0 x1 x2
        have HS := Lib.hid (show freeF n l m t (n.toNat - t) = if arcR n l m (t : Int) = 0 then some t else freeF n l m (t + 1) (n.toNat - (t + 1)) by rw [show n.toNat - t = (n.toNat - (t + 1)) + 1 by omega]; rfl)
        obtain ⟨X, hX⟩ : ∃ X, X = arcR n l m (t : Int) := ⟨_, rfl⟩
        rw [← hX] at HS ⊢
        clear hX
        by_cases hx : X = 0
        · have d1 : (X == 0) = true := by simp [hx]
          have HE := Lib.hid (HV.out (some t) (by rw [HO.out HP.out, HF.out, HS.out, if_pos hx]))
          clear hx
          go_wp2
          go_ret2
          exact ⟨by rw [HE.out.1, HE.out.2] <;> rfl, HW5.out⟩
        · have d1 : (X == 0) = false := by simp [hx]
          have HE := Lib.hid (show freeF n l m 0 n.toNat = freeF n l m (t + 1) (n.toNat - (t + 1)) by rw [HF.out, HS.out, if_neg hx])
          clear hx
          go_wp2
          go_roundw
          case rel => exact ⟨t + 1, by omega, by go_num, HB5.out, HE.out, fun _ => HP.out⟩
          case measure => simp [intOf]; omega
    · have d0 : decide ((t : Int) < n) = false := decide_eq_false hlt
      have HE := Lib.hid (HV.out none (by
        by_cases hp : ArcsP n l m
        · rw [HO.out hp, HF.out, show n.toNat - t = 0 by omega]; rfl
        · exact HO2.out hp))
      go_wp2
      go_ret2
      exact ⟨by rw [HE.out.1, HE.out.2] <;> rfl, HB0.out⟩

end Go.Proofs.Yteikiifjiapjaab
