/- FormatArcs. -/
import Derived.Test.YtcpchdnhhjhpaacDoorY2
import Derived.Test.YtcpchdnhhjhpaacDoorFiWalks
import Derived.Test.YtcpchdnhhjhpaacDoorFb
import Derived.Test.YtcpchdnhhjhpaacDoorBx
import Derived.Test.YtcpchdnhhjhpaacDoorQ
import Derived.Test.YtcpchdnhhjhpaacDoorQt
import Derived.Deep.CutRange
namespace Go.Proofs.YtcpchdnhhjhpaacDoor
set_option linter.unusedVariables false
set_option linter.unusedSimpArgs false
open Go.RowKit

theorem Box.blk {q : Nat} {vs : List Value} {w w' : World} (h : Box q vs w) (hb : w'.heap[q]? = w.heap[q]?) (hs : w.heap.size ≤ w'.heap.size) : Box q vs w' :=
  ⟨fun i v hv => (World.cell?_of_block (a := ⟨q, i, none⟩) hb).trans (h.1 i v hv), fun i => (World.frozen?_of_block (a := ⟨q, i, none⟩) hb).trans (h.2.1 i), Nat.lt_of_lt_of_le h.2.2 hs⟩

/-- What is written of the first k arcs. -/
def segA (l m : List Int) (k : Nat) : List UInt8 := (List.range k).flatMap fun i => 32 :: Lib.itoa (nth l i) ++ 43 :: Lib.itoa (nth m i)

theorem segA_succ (l m : List Int) (k : Nat) : segA l m (k + 1) = segA l m k ++ (32 :: Lib.itoa (nth l k) ++ 43 :: Lib.itoa (nth m k)) := by
  unfold segA
  rw [List.range_succ, List.flatMap_append]
  simp

theorem segA_len (l m : List Int) (hl : inI64 l) (hm : inI64 m) : ∀ k, (segA l m k).length ≤ 44 * k
  | 0 => by simp [segA]
  | k + 1 => by
    have ih := segA_len l m hl hm k
    have h1 := Lib.itoa_length_le (nth l k) (nth_in hl k).1 (nth_in hl k).2
    have h2 := Lib.itoa_length_le (nth m k) (nth_in hm k).1 (nth_in hm k).2
    rw [segA_succ]
    simp
    omega

def arcsT (n : Int) (l m : List Int) : List UInt8 := if ArcsP n l m then Lib.itoa n ++ [58] ++ segA l m l.length else []

theorem one_app (c : UInt8) (a : List UInt8) : (({ data := #[c] } : ByteArray) ++ ({ data := a.toArray } : ByteArray)) = { data := (c :: a).toArray } := str_app [c] a

theorem app_one (a : List UInt8) (c : UInt8) : (({ data := a.toArray } : ByteArray) ++ ({ data := #[c] } : ByteArray)) = { data := (a ++ [c]).toArray } := str_app a [c]

set_option maxHeartbeats 2000000 in
set_option maxRecDepth 100000 in
theorem implFArcs (n : Int) (v u : Value) (l m : List Int) (w : World) (h : Ints w v l) (g : Ints w u m) (hl : l.length ≤ 1048576) (hm : m.length ≤ 1048576) (hn0 : -9223372036854775808 ≤ n) (hn1 : n ≤ 9223372036854775807) (htab : TabP w) :
    Calls Tryd.prog 19 #[.agg #[.int .i64 n, v, u]] w fun e w' => e = .returned (.string ⟨(arcsT n l m).toArray⟩) ∧ Below w.heap.size w w' := by
  obtain ⟨ad, cap, rfl, -, -⟩ := h.form
  obtain ⟨bd, cap', rfl, -, -⟩ := g.form
  have HI := Lib.hid h
  have HJ := Lib.hid g
  have HT := Lib.hid htab
  clear h g htab
  obtain ⟨T, hT⟩ : ∃ T, T = arcsT n l m := ⟨_, rfl⟩
  rw [← hT]
  have HTT := Lib.hid hT
  clear hT
  obtain ⟨w0, hw0⟩ : ∃ w0, w0 = (w.alloc (.cells #[.int .i64 n, .slice ad l.length cap, .slice bd m.length cap'] 37)) := ⟨_, rfl⟩
  have F0 := Lib.hid (show Below w.heap.size w w0 by rw [hw0]; exact (Below.refl _ w).alloc (Nat.le_refl _) _)
  have A0 := Lib.hid (show Box w.heap.size [.int .i64 n, .slice ad l.length cap, .slice bd m.length cap'] w0 by rw [hw0]; exact Box.new w _ _)
  have x0 : w0.cell? ⟨w.heap.size, 0, none⟩ = some (.int .i64 n) := A0.out.1 0 _ rfl
  have x1 : w0.cell? ⟨w.heap.size, 1, none⟩ = some (.slice ad l.length cap) := A0.out.1 1 _ rfl
  have x2 : w0.cell? ⟨w.heap.size, 2, none⟩ = some (.slice bd m.length cap') := A0.out.1 2 _ rfl
  go_enter Tryd.func19, Tryd.ntmps19
  go_upto_region 1 with fail
  rw [← hw0]
  clear hw0
  go_wp2_with fail
  refine (implIsArcs n _ _ l m _ (HI.out.on F0.out) (HJ.out.on F0.out) hl hm).mono ?_
  rintro e w1 ⟨r, rfl, hr, hb⟩
  have HR := Lib.hid hr
  have F1 := Lib.hid (F0.out.trans (hb.mono F0.out.size))
  have A1 := Lib.hid (A0.out.on hb)
  clear hb hr x0 x1 x2 A0
  cases r with
  | false =>
    have HE := Lib.hid (show T = [] by rw [HTT.out]; unfold arcsT; rw [if_neg (fun h => absurd (HR.out.2 h) (by decide))])
    go_wp2
    go_ret
    exact ⟨by rw [HE.out]; rfl, F1.out⟩
  | true =>
    have HV := Lib.hid (HR.out.1 (by first | rfl | trivial))
    have HE := Lib.hid (show T = Lib.itoa n ++ [58] ++ segA l m l.length by rw [HTT.out]; unfold arcsT; rw [if_pos HV.out])
    obtain ⟨hl1, hl7⟩ := HV.out.2.1
    have hml : l.length ≤ m.length := by have := HV.out.2.2.1; omega
    obtain ⟨b, hbq⟩ : ∃ b, b = w1.heap.size := ⟨_, rfl⟩
    obtain ⟨w2, hw2⟩ : ∃ w2, w2 = w1.alloc (.cells #[.pointer none, .slice none 0 0] 61) := ⟨_, rfl⟩
    have hb2 : Below w1.heap.size w1 w2 := by rw [hw2]; exact (Below.refl _ _).alloc (Nat.le_refl _) _
    have A2 := Lib.hid (A1.out.on hb2)
    have F2 := Lib.hid (F1.out.trans (hb2.mono F1.out.size))
    have hnew : w2.heap[b]? = some (.cells #[.pointer none, .slice none 0 0] 61 (0, 0)) := by rw [hw2, hbq]; exact heap_alloc_new w1 _
    have hz2 : w2.heap.size = b + 1 := by rw [hw2, hbq]; simp
    have hwb : w.heap.size < b := by rw [hbq]; exact A1.out.2.2
    have x0 : w2.cell? ⟨w.heap.size, 0, none⟩ = some (.int .i64 n) := A2.out.1 0 _ rfl
    have hni := Lib.itoa_length_le n hn0 hn1
    have HNEW := Lib.hid hnew
    have HZ2 := Lib.hid hz2
    clear hb2 hnew hz2 A1
    go_upto_region 4 with fail
    rw [← hbq, ← hw2]
    clear hw2 hbq
    go_wp2_with fail
    refine (implFI' n _ hn0 hn1 (HT.out.on F2.out)).mono ?_
    rintro e w3 ⟨rfl, hb3⟩
    obtain ⟨lo, hlo⟩ : ∃ lo, lo = w3.heap.size := ⟨_, rfl⟩
    have hblo : b < lo := by have := hb3.size; have := HZ2.out; omega
    have B3 := Lib.hid (Bu.fresh (lo := lo) ((hb3.block b (by have := HZ2.out; omega)).trans HNEW.out) hblo)
    have A3 := Lib.hid (A2.out.on hb3)
    have F3 := Lib.hid (F2.out.trans (hb3.mono F2.out.size))
    have hlo3 : lo ≤ w3.heap.size := by omega
    have HW := Lib.hid (writeS lo b [] (Lib.itoa n ++ [58]) w3 B3.out (by simp; omega) hlo3)
    rw [← app_one] at HW
    clear hb3 x0 A2 hlo
    go_wp2_with fail
    refine HW.out.mono ?_
    rintro e w4 ⟨rfl, hb4, hf4⟩
    rw [List.nil_append] at hb4
    have B4 := Lib.hid hb4
    have A4 := Lib.hid (A3.out.blk (hf4.block _ (by omega) (by omega)) hf4.size)
    have F4 := Lib.hid (F3.out.trans (hf4.below (by omega) (by omega)))
    have hlo4 : lo ≤ w4.heap.size := Nat.le_trans hlo3 hf4.size
    have x1 : w4.cell? ⟨w.heap.size, 1, none⟩ = some (.slice ad l.length cap) := A4.out.1 1 _ rfl
    clear hb4 hf4 HW
    go_wp2
    clear x1
    go_loopw [17] (fun c wr => ∃ k : Nat, k ≤ l.length ∧ c = .int .i64 k ∧ Hid (Bu lo b (Lib.itoa n ++ [58] ++ segA l m k) wr) ∧ Hid (Below w.heap.size w wr) ∧ Hid (Box w.heap.size [.int .i64 n, .slice ad l.length cap, .slice bd m.length cap'] wr) ∧ lo ≤ wr.heap.size) (fun c _ => l.length - (intOf c).toNat)
    case atStart => exact ⟨0, by omega, rfl, (show Bu lo b (Lib.itoa n ++ [58] ++ segA l m 0) w4 from by have := B4.out; simpa [segA] using this), F4.out, A4.out, hlo4⟩
    case round =>
      clear B3 B4 F3 F4 A3 A4 hlo3 hlo4
      obtain ⟨k, hk, rfl, HB, HF, HA, hlo5⟩ := hrel
      by_cases hlt : k < l.length
      · obtain ⟨b2, off2, cap2, hv, _, _, hb2, hcell2⟩ := (HI.out.on HF.out).pos (by omega)
        simp only [Value.slice.injEq] at hv
        obtain ⟨rfl, -, rfl⟩ := hv
        obtain ⟨b3, off3, cap3, hv, _, _, hb3, hcell3⟩ := (HJ.out.on HF.out).pos (by omega)
        simp only [Value.slice.injEq] at hv
        obtain ⟨rfl, -, rfl⟩ := hv
        obtain ⟨z, hz⟩ : ∃ z, z = nth l k := ⟨_, rfl⟩
        obtain ⟨y, hy⟩ : ∃ z, z = nth m k := ⟨_, rfl⟩
        have e0 := hcell2 k hlt
        rw [← hz] at e0
        have hkm : k < m.length := by omega
        have hzi := nth_in HI.out.1 k
        have hyi := nth_in HJ.out.1 k
        rw [← hz] at hzi
        rw [← hy] at hyi
        have hl9 := segA_len l m HI.out.1 HJ.out.1 k
        have hz21 := Lib.itoa_length_le z hzi.1 hzi.2
        have hy21 := Lib.itoa_length_le y hyi.1 hyi.2
        obtain ⟨Z, hZ⟩ : ∃ Z : ByteArray, Z = { data := (Lib.itoa z).toArray } := ⟨_, rfl⟩
        obtain ⟨Y, hY⟩ : ∃ Z : ByteArray, Z = { data := (Lib.itoa y).toArray } := ⟨_, rfl⟩
        have HS2 := Lib.hid (show Lib.itoa n ++ [58] ++ segA l m (k + 1) = (Lib.itoa n ++ [58] ++ segA l m k) ++ (32 :: Lib.itoa z ++ 43 :: Lib.itoa y) by rw [segA_succ, hz, hy]; simp [List.append_assoc])
        have HSTR := Lib.hid (show ((({ data := #[32] } : ByteArray) ++ Z) ++ ({ data := #[43] } : ByteArray)) ++ Y = { data := (32 :: Lib.itoa z ++ 43 :: Lib.itoa y).toArray } by
          rw [hZ, hY, one_app, app_one, str_app]
          congr 2
          simp)
        have k2 : ∀ X : Since wr, X.val.cell? ⟨w.heap.size, 2, none⟩ = some (.slice (some ⟨b3, off3, none⟩) m.length cap') := fun X => (HA.out.on X.prop).1 2 _ rfl
        have k3 : ∀ X : Since wr, X.val.cell? ⟨b3, off3 + k, none⟩ = some (.int .i64 y) := fun X => by rw [hy]; exact (X.prop.cell (p := ⟨b3, off3 + k, none⟩) hb3).trans (hcell3 k hkm)
        have HC1 : Hid (∀ X : Since wr, Calls Tryd.prog 41 #[.int .i64 z] X.val fun e w' => e = .returned (.string Z) ∧ Below X.val.heap.size X.val w') := fun X => by
          rw [hZ]; exact implFI' z _ hzi.1 hzi.2 ((HT.out.on HF.out).on X.prop)
        have HC2 : Hid (∀ X : Since wr, Calls Tryd.prog 41 #[.int .i64 y] X.val fun e w' => e = .returned (.string Y) ∧ Below X.val.heap.size X.val w') := fun X => by
          rw [hY]; exact implFI' y _ hyi.1 hyi.2 ((HT.out.on HF.out).on X.prop)
        have HWR : Hid (∀ X : Since wr, Calls Tryd.prog 40 #[.pointer (some ⟨b, 0, none⟩), .string (((({ data := #[32] } : ByteArray) ++ Z) ++ ({ data := #[43] } : ByteArray)) ++ Y)] X.val fun e w' => e = .returned (.tuple #[.int .i64 ((32 :: Lib.itoa z ++ 43 :: Lib.itoa y).length : Int), .nilIface]) ∧ Bu lo b (Lib.itoa n ++ [58] ++ segA l m (k + 1)) w' ∧ FrB lo b X.val w') := fun X => by
          rw [HSTR.out, HS2.out]
          exact writeS lo b _ _ X.val (HB.out.on X.prop) (by simp; omega) (Nat.le_trans hlo5 X.prop.size)
        obtain ⟨NN, hNN⟩ : ∃ q : Int, q = ((32 :: Lib.itoa z ++ 43 :: Lib.itoa y).length : Int) := ⟨_, rfl⟩
        rw [← hNN] at HWR
        have hZs : Z.size ≤ 21 := by rw [hZ]; show (Lib.itoa z).toArray.size ≤ 21; simpa using hz21
        have hYs : Y.size ≤ 21 := by rw [hY]; show (Lib.itoa y).toArray.size ≤ 21; simpa using hy21
        clear hcell2 hcell3 hz hy hZ hY hNN
        go_wp2
        refine wp_region_since_call 11 (by kernel_rfl) (by kernel_rfl) ?_
        simp only [List.take_succ_cons, List.take_zero, List.drop_succ_cons, List.drop_zero]
        repeat (go_big_quiet_step (first | with_reducible exact since_call (HC1.out _) | with_reducible exact since_call (HC2.out _)))
        refine wpQuiet_nil ?_
        intro X
        have HWX := Lib.hid (HWR.out X)
        have HXA := Lib.hid (HA.out.on X.prop)
        have HXF := Lib.hid (HF.out.trans (X.prop.mono HF.out.size))
        have hlo6 : lo ≤ X.val.heap.size := Nat.le_trans hlo5 X.prop.size
        clear k2 k3 e0
        go_wp2_with fail
        refine HWX.out.mono ?_
        rintro e w6 ⟨rfl, hb6, hf6⟩
        have HB6 := Lib.hid hb6
        have HA6 := Lib.hid (HXA.out.blk (hf6.block _ (by omega) (by omega)) hf6.size)
        have HF6 := Lib.hid (HXF.out.trans (hf6.below (by omega) (by omega)))
        have hlo7 : lo ≤ w6.heap.size := Nat.le_trans hlo6 hf6.size
        clear hb6 hf6
        go_wp2_with fail
        refine thenQ_normal ?_
        refine wpQuiet_nil ?_
        go_wp2
        go_roundw
        case rel => exact ⟨k + 1, by omega, by go_num, HB6.out, HF6.out, HA6.out, hlo7⟩
        case measure => simp [intOf]; omega
      · obtain rfl : k = l.length := by omega
        go_wp2_with fail
        refine (readS lo b _ _ HB.out hlo5).mono ?_
        rintro e w2 ⟨rfl, hb⟩
        have HF2 := Lib.hid (HF.out.trans (hb.mono (by omega)))
        go_wp2
        go_ret
        exact ⟨by rw [HE.out, List.append_assoc]; rfl, HF2.out⟩

set_option maxHeartbeats 2000000 in
set_option maxRecDepth 100000 in
theorem specFArcs (n : Int) (v u : Value) (l m : List Int) (w : World) (h : Ints w v l) (g : Ints w u m) (hl : l.length ≤ 1048576) (hm : m.length ≤ 1048576) (hn0 : -9223372036854775808 ≤ n) (hn1 : n ≤ 9223372036854775807) :
    Calls Tryd.prog 17 #[.agg #[.int .i64 n, v, u]] w fun e w' => e = .returned (.string ⟨(arcsT n l m).toArray⟩) ∧ Below w.heap.size w w' := by
  obtain ⟨ad, cap, rfl, -, -⟩ := h.form
  obtain ⟨bd, cap', rfl, -, -⟩ := g.form
  have HI := Lib.hid h
  have HJ := Lib.hid g
  clear h g
  obtain ⟨T, hT⟩ : ∃ T : ByteArray, T = { data := (arcsT n l m).toArray } := ⟨_, rfl⟩
  rw [← hT]
  have HTT := Lib.hid hT
  clear hT
  obtain ⟨w0, hw0⟩ : ∃ w0, w0 = (w.alloc (.cells #[.int .i64 n, .slice ad l.length cap, .slice bd m.length cap'] 37)) := ⟨_, rfl⟩
  have F0 := Lib.hid (show Below w.heap.size w w0 by rw [hw0]; exact (Below.refl _ w).alloc (Nat.le_refl _) _)
  have A0 := Lib.hid (show Box w.heap.size [.int .i64 n, .slice ad l.length cap, .slice bd m.length cap'] w0 by rw [hw0]; exact Box.new w _ _)
  have x0 : w0.cell? ⟨w.heap.size, 0, none⟩ = some (.int .i64 n) := A0.out.1 0 _ rfl
  have x1 : w0.cell? ⟨w.heap.size, 1, none⟩ = some (.slice ad l.length cap) := A0.out.1 1 _ rfl
  have x2 : w0.cell? ⟨w.heap.size, 2, none⟩ = some (.slice bd m.length cap') := A0.out.1 2 _ rfl
  go_enter Tryd.func17, Tryd.ntmps17
  go_upto_region 1 with fail
  rw [← hw0]
  clear hw0
  go_wp2_with fail
  refine (specIsArcs n _ _ l m _ (HI.out.on F0.out) (HJ.out.on F0.out) hl hm).mono ?_
  rintro e w1 ⟨r, rfl, hr, hb⟩
  have HR := Lib.hid hr
  have F1 := Lib.hid (F0.out.trans (hb.mono F0.out.size))
  have A1 := Lib.hid (A0.out.on hb)
  clear hb hr x0 x1 x2 A0
  cases r with
  | false =>
    have HE := Lib.hid (show T = { data := #[] } by rw [HTT.out]; unfold arcsT; rw [if_neg (fun h => absurd (HR.out.2 h) (by decide))])
    go_wp2
    go_ret
    exact ⟨by rw [HE.out]; rfl, F1.out⟩
  | true =>
    have HV := Lib.hid (HR.out.1 (by first | rfl | trivial))
    have HE := Lib.hid (show T = { data := (Lib.itoa n ++ [58] ++ segA l m l.length).toArray } by rw [HTT.out]; unfold arcsT; rw [if_pos HV.out])
    obtain ⟨hl1, hl7⟩ := HV.out.2.1
    have hml : l.length ≤ m.length := by have := HV.out.2.2.1; omega
    have x0 : w1.cell? ⟨w.heap.size, 0, none⟩ = some (.int .i64 n) := A1.out.1 0 _ rfl
    have hni := Lib.itoa_length_le n hn0 hn1
    go_wp2_with fail
    refine (specFI n _ hn0 hn1).mono ?_
    rintro e w3 ⟨rfl, hb3⟩
    have A3 := Lib.hid (A1.out.on hb3)
    have F3 := Lib.hid (F1.out.trans (hb3.mono F1.out.size))
    have HS0 := Lib.hid (show (({ data := (Lib.itoa n).toArray } : ByteArray) ++ ({ data := #[58] } : ByteArray)) = { data := (Lib.itoa n ++ [58] ++ segA l m 0).toArray } by rw [app_one]; simp [segA])
    clear hb3 x0 A1
    go_wp2
    go_loopw [3, 4] (fun s c wr => ∃ (k : Nat) (S : ByteArray), k ≤ l.length ∧ c = .int .i64 k ∧ s = .string S ∧ Hid (S = { data := (Lib.itoa n ++ [58] ++ segA l m k).toArray }) ∧ Hid (Below w.heap.size w wr) ∧ Hid (Box w.heap.size [.int .i64 n, .slice ad l.length cap, .slice bd m.length cap'] wr)) (fun _ c _ => l.length - (intOf c).toNat)
    case atStart => exact ⟨0, _, by omega, rfl, rfl, HS0.out, F3.out, A3.out⟩
    case round =>
      clear F3 A3
      obtain ⟨k, S, hk, rfl, rfl, HS, HF, HA⟩ := hrel
      have x1 : wr.cell? ⟨w.heap.size, 1, none⟩ = some (.slice ad l.length cap) := HA.out.1 1 _ rfl
      by_cases hlt : k < l.length
      · obtain ⟨b2, off2, cap2, hv, _, _, hb2, hcell2⟩ := (HI.out.on HF.out).pos (by omega)
        simp only [Value.slice.injEq] at hv
        obtain ⟨rfl, -, rfl⟩ := hv
        obtain ⟨b3, off3, cap3, hv, _, _, hb3, hcell3⟩ := (HJ.out.on HF.out).pos (by omega)
        simp only [Value.slice.injEq] at hv
        obtain ⟨rfl, -, rfl⟩ := hv
        obtain ⟨z, hz⟩ : ∃ z, z = nth l k := ⟨_, rfl⟩
        obtain ⟨y, hy⟩ : ∃ z, z = nth m k := ⟨_, rfl⟩
        have hkm : k < m.length := by omega
        have hzi := nth_in HI.out.1 k
        have hyi := nth_in HJ.out.1 k
        rw [← hz] at hzi
        rw [← hy] at hyi
        have hl9 := segA_len l m HI.out.1 HJ.out.1 k
        have hz21 := Lib.itoa_length_le z hzi.1 hzi.2
        have hy21 := Lib.itoa_length_le y hyi.1 hyi.2
        obtain ⟨Z, hZ⟩ : ∃ Z : ByteArray, Z = { data := (Lib.itoa z).toArray } := ⟨_, rfl⟩
        obtain ⟨Y, hY⟩ : ∃ Z : ByteArray, Z = { data := (Lib.itoa y).toArray } := ⟨_, rfl⟩
        have HSTR := Lib.hid (show (((S ++ ({ data := #[32] } : ByteArray)) ++ Z) ++ ({ data := #[43] } : ByteArray)) ++ Y = { data := (Lib.itoa n ++ [58] ++ segA l m (k + 1)).toArray } by
          rw [hZ, hY, HS.out, app_one, str_app, app_one, str_app, segA_succ, hz, hy]
          congr 2
          simp [List.append_assoc])
        have k1 : ∀ X : Since wr, X.val.cell? ⟨w.heap.size, 1, none⟩ = some (.slice (some ⟨b2, off2, none⟩) l.length cap) := fun X => (HA.out.on X.prop).1 1 _ rfl
        have k2 : ∀ X : Since wr, X.val.cell? ⟨w.heap.size, 2, none⟩ = some (.slice (some ⟨b3, off3, none⟩) m.length cap') := fun X => (HA.out.on X.prop).1 2 _ rfl
        have k3 : ∀ X : Since wr, X.val.cell? ⟨b2, off2 + k, none⟩ = some (.int .i64 z) := fun X => by rw [hz]; exact (X.prop.cell (p := ⟨b2, off2 + k, none⟩) hb2).trans (hcell2 k hlt)
        have k4 : ∀ X : Since wr, X.val.cell? ⟨b3, off3 + k, none⟩ = some (.int .i64 y) := fun X => by rw [hy]; exact (X.prop.cell (p := ⟨b3, off3 + k, none⟩) hb3).trans (hcell3 k hkm)
        have HC1 : Hid (∀ X : Since wr, Calls Tryd.prog 37 #[.int .i64 z] X.val fun e w' => e = .returned (.string Z) ∧ Below X.val.heap.size X.val w') := fun X => by
          rw [hZ]; exact specFI z _ hzi.1 hzi.2
        have HC2 : Hid (∀ X : Since wr, Calls Tryd.prog 37 #[.int .i64 y] X.val fun e w' => e = .returned (.string Y) ∧ Below X.val.heap.size X.val w') := fun X => by
          rw [hY]; exact specFI y _ hyi.1 hyi.2
        have hZs : Z.size ≤ 21 := by rw [hZ]; show (Lib.itoa z).toArray.size ≤ 21; simpa using hz21
        have hYs : Y.size ≤ 21 := by rw [hY]; show (Lib.itoa y).toArray.size ≤ 21; simpa using hy21
        have hSs : S.size ≤ 400 := by rw [HS.out]; show (Lib.itoa n ++ [58] ++ segA l m k).toArray.size ≤ 400; simp; omega
        clear hcell2 hcell3 hz hy hZ hY
        go_wp2
        refine wp_region_since (by kernel_rfl) (by kernel_rfl) ?_
        repeat (go_big_quiet_step (first | with_reducible exact since_call (HC1.out _) | with_reducible exact since_call (HC2.out _)))
        refine wpQuiet_nil ?_
        intro X
        have HXA := Lib.hid (HA.out.on X.prop)
        have HXF := Lib.hid (HF.out.trans (X.prop.mono HF.out.size))
        clear k1 k2 k3 k4 x1
        go_wp2
        go_roundw
        case rel => exact ⟨k + 1, _, by omega, by go_num, rfl, HSTR.out, HXF.out, HXA.out⟩
        case measure => simp [intOf]; omega
      · obtain rfl : k = l.length := by omega
        have HE2 := Lib.hid (HE.out.trans HS.out.symm)
        go_wp2
        go_ret
        exact ⟨by rw [HE2.out]; rfl, HF.out⟩

end Go.Proofs.YtcpchdnhhjhpaacDoor
