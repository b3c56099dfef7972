/- FormatTree. -/
import Derived.Test.YtcpchdnhhjhpaacDoorFa
import Derived.Test.YtcpchdnhhjhpaacDoorFt
import Derived.Test.YtcpchdnhhjhpaacDoorFs
import Derived.Test.YtcpchdnhhjhpaacDoorY10
namespace Go.Proofs.YtcpchdnhhjhpaacDoor
set_option linter.unusedVariables false
set_option linter.unusedSimpArgs false
open Go.RowKit

/-- What is written of the first k nodes. -/
def segT (l m : List Int) (k : Nat) : List UInt8 := (List.range k).flatMap fun i => (if 0 < i then 32 :: Lib.itoa (nth m i) ++ [62] else []) ++ setT (nth l i)

theorem segT_succ (l m : List Int) (k : Nat) : segT l m (k + 1) = segT l m k ++ ((if 0 < k then 32 :: Lib.itoa (nth m k) ++ [62] else []) ++ setT (nth l k)) := by
  unfold segT
  rw [List.range_succ, List.flatMap_append]
  simp

theorem segT_len (l m : List Int) (hm : inI64 m) : ∀ k, (segT l m k).length ≤ 170 * k
  | 0 => by simp [segT]
  | k + 1 => by
    have ih := segT_len l m hm k
    have h1 := Lib.itoa_length_le (nth m k) (nth_in hm k).1 (nth_in hm k).2
    have h2 := setT_len (nth l k)
    rw [segT_succ]
    split <;> simp <;> omega

def treeT (l m : List Int) : List UInt8 := if TreeP l m then segT l m l.length else []

theorem FrT.box {lo b q : Nat} {vs : List Value} {w w' : World} {cs : Array Value} {fr : Nat × Nat} {T : TypeId} (h : FrT lo b w w') (hb : Box q vs w) (hc : w.heap[q]? = some (.cells cs T fr)) (hT : T ≠ 5) (hqb : q ≠ b) : Box q vs w' ∧ w'.heap[q]? = some (.cells cs T fr) := by
  have := h.typed q hb.2.2 hqb fun cs' fr' h5 => by
    rw [hc] at h5
    injection h5 with h5
    injection h5 with _ h6 _
    exact hT h6
  exact ⟨hb.blk this h.frame.size, this.trans hc⟩

set_option maxHeartbeats 2000000 in
set_option maxRecDepth 100000 in
theorem implFTree (v u : Value) (l m : List Int) (w : World) (h : Ints w v l) (g : Ints w u m) (hl : l.length ≤ 1048576) (hm : m.length ≤ 1048576) (htab : TabP w) :
    Calls Tryd.prog 24 #[.agg #[v, u]] w fun e w' => e = .returned (.string ⟨(treeT l m).toArray⟩) ∧ Below w.heap.size w w' := by
  obtain ⟨ad, cap, rfl, -, -⟩ := h.form
  obtain ⟨bd, cap', rfl, -, -⟩ := g.form
  have HI := Lib.hid h
  have HJ := Lib.hid g
  have HT := Lib.hid htab
  clear h g htab
  obtain ⟨T, hT⟩ : ∃ T, T = treeT l m := ⟨_, rfl⟩
  rw [← hT]
  have HTT := Lib.hid hT
  clear hT
  obtain ⟨w0, hw0⟩ : ∃ w0, w0 = (w.alloc (.cells #[.slice ad l.length cap, .slice bd m.length cap'] 45)) := ⟨_, rfl⟩
  have F0 := Lib.hid (show Below w.heap.size w w0 by rw [hw0]; exact (Below.refl _ w).alloc (Nat.le_refl _) _)
  have A0 := Lib.hid (show Box w.heap.size [.slice ad l.length cap, .slice bd m.length cap'] w0 by rw [hw0]; exact Box.new w _ _)
  have x0 : w0.cell? ⟨w.heap.size, 0, none⟩ = some (.slice ad l.length cap) := A0.out.1 0 _ rfl
  have x1 : w0.cell? ⟨w.heap.size, 1, none⟩ = some (.slice bd m.length cap') := A0.out.1 1 _ rfl
  go_enter Tryd.func24, Tryd.ntmps24
  go_upto_region 1 with fail
  rw [← hw0]
  clear hw0
  go_wp2_with fail
  refine (implIsTree _ _ l m _ (HI.out.on F0.out) (HJ.out.on F0.out) hl hm).mono ?_
  rintro e w1 ⟨r, rfl, hr, hb⟩
  have HR := Lib.hid hr
  have F1 := Lib.hid (F0.out.trans (hb.mono F0.out.size))
  have A1 := Lib.hid (A0.out.on hb)
  clear hb hr x0 x1 A0
  cases r with
  | false =>
    have HE := Lib.hid (show T = [] by rw [HTT.out]; unfold treeT; rw [if_neg (fun h => absurd (HR.out.2 h) (by decide))])
    go_wp2
    go_ret
    exact ⟨by rw [HE.out]; rfl, F1.out⟩
  | true =>
    have HV := Lib.hid (HR.out.1 (by first | rfl | trivial))
    have HE := Lib.hid (show T = segT l m l.length by rw [HTT.out]; unfold treeT; rw [if_pos HV.out])
    obtain ⟨hl1, hl7⟩ := HV.out.1
    have hml : l.length ≤ m.length := by have := HV.out.2.1; omega
    obtain ⟨b, hbq⟩ : ∃ b, b = w1.heap.size := ⟨_, rfl⟩
    obtain ⟨w2, hw2⟩ : ∃ w2, w2 = w1.alloc (.cells #[.pointer none, .slice none 0 0] 61) := ⟨_, rfl⟩
    have hb2 : Below w1.heap.size w1 w2 := by rw [hw2]; exact (Below.refl _ _).alloc (Nat.le_refl _) _
    have A2 := Lib.hid (A1.out.on hb2)
    have F2 := Lib.hid (F1.out.trans (hb2.mono F1.out.size))
    have hnew : w2.heap[b]? = some (.cells #[.pointer none, .slice none 0 0] 61 (0, 0)) := by rw [hw2, hbq]; exact heap_alloc_new w1 _
    have hz2 : w2.heap.size = b + 1 := by rw [hw2, hbq]; simp
    have hwb : w.heap.size < b := by rw [hbq]; exact A1.out.2.2
    have x0 : w2.cell? ⟨w.heap.size, 0, none⟩ = some (.slice ad l.length cap) := A2.out.1 0 _ rfl
    have x1 : w2.cell? ⟨w.heap.size, 1, none⟩ = some (.slice bd m.length cap') := A2.out.1 1 _ rfl
    have HNEW := Lib.hid hnew
    have HZ2 := Lib.hid hz2
    clear hb2 hnew hz2 A1
    go_upto_region 4 with fail
    rw [← hbq, ← hw2]
    clear hw2 hbq
    go_wp2_with fail
    refine (nodesOf_is _ _ l m _ (HI.out.on F2.out) (HJ.out.on F2.out) hl hm hml).mono ?_
    rintro e w3 ⟨gn, rfl, hgn, hrow, hb3⟩
    obtain ⟨lo, hlo⟩ : ∃ lo, lo = w3.heap.size := ⟨_, rfl⟩
    have hz2 := HZ2.out
    have hblo : b < lo := by have := hb3.size; omega
    have B3 := Lib.hid (Bu.fresh (lo := lo) ((hb3.block b (by omega)).trans HNEW.out) hblo)
    have F3 := Lib.hid (F2.out.trans (hb3.mono F2.out.size))
    have hlo3 : lo ≤ w3.heap.size := by omega
    have hgb : b < gn := by omega
    have hglo : gn < lo := by rw [hlo]; exact hrow.2
    have P3 := Lib.hid hrow
    clear hb3 x0 x1 A2 hlo hrow hgn hz2
    go_wp2
    go_loopw [12] (fun c wr => ∃ k : Nat, k ≤ l.length ∧ c = .int .i64 k ∧ Hid (Bu lo b (segT l m k) wr) ∧ Hid (Below w.heap.size w wr) ∧ Hid (PairRow gn l m wr) ∧ lo ≤ wr.heap.size) (fun c _ => l.length - (intOf c).toNat)
    case atStart => exact ⟨0, by omega, rfl, B3.out, F3.out, P3.out, hlo3⟩
    case round =>
      clear B3 F3 P3 hlo3
      obtain ⟨k, hk, rfl, HB, HF, HP, hlo5⟩ := hrel
      by_cases hlt : k < l.length
      · obtain ⟨z, hz⟩ : ∃ z, z = nth l k := ⟨_, rfl⟩
        obtain ⟨y, hy⟩ : ∃ z, z = nth m k := ⟨_, rfl⟩
        obtain ⟨e0, e1⟩ := HP.out.1 k hlt
        rw [← hz] at e0
        rw [← hy] at e1
        have hyi := nth_in HJ.out.1 k
        rw [← hy] at hyi
        have hl9 := segT_len l m HJ.out.1 k
        have hy21 := Lib.itoa_length_le y hyi.1 hyi.2
        have hz147 := setT_len z
        obtain ⟨q, hq⟩ : ∃ q, q = wr.heap.size := ⟨_, rfl⟩
        obtain ⟨w4, hw4⟩ : ∃ w4, w4 = wr.alloc (.cells #[.int .i64 z, .int .i64 y] 77) := ⟨_, rfl⟩
        have hb4 : Below wr.heap.size wr w4 := by rw [hw4]; exact (Below.refl _ _).alloc (Nat.le_refl _) _
        have HB4 := Lib.hid (HB.out.on hb4)
        have HF4 := Lib.hid (HF.out.trans (hb4.mono HF.out.size))
        have HP4 := Lib.hid (HP.out.on hb4)
        have hlo4 : lo ≤ w4.heap.size := Nat.le_trans hlo5 hb4.size
        have HQ4 := Lib.hid (show Box q [.int .i64 z, .int .i64 y] w4 by rw [hw4, hq]; exact Box.new wr _ _)
        have HQC4 := Lib.hid (show w4.heap[q]? = some (.cells #[.int .i64 z, .int .i64 y] 77 (0, 0)) by rw [hw4, hq]; exact heap_alloc_new wr _)
        have hqb : q ≠ b := by omega
        have hqlo : lo ≤ q := by omega
        have HTAB4 := Lib.hid (HT.out.on HF4.out)
        have HZ := Lib.hid hz
        have HY := Lib.hid hy
        clear hb4 hz hy
        go_upto_region 7 with fail
        rw [← hq, ← hw4]
        clear hw4 hq e0 e1
        have z0 : w4.cell? ⟨q, 0, none⟩ = some (.int .i64 z) := HQ4.out.1 0 _ rfl
        have z1 : w4.cell? ⟨q, 1, none⟩ = some (.int .i64 y) := HQ4.out.1 1 _ rfl
        by_cases hk0 : 0 < k
        · have hkd : (0 : Int) < (k : Int) := by omega
          have HS2 := Lib.hid (show segT l m (k + 1) = segT l m k ++ (32 :: Lib.itoa y ++ [62]) ++ setT z by rw [segT_succ, HZ.out, HY.out, if_pos hk0]; simp [List.append_assoc])
          have HSTR := Lib.hid (show (({ data := #[32] } : ByteArray) ++ ({ data := (Lib.itoa y).toArray } : ByteArray)) ++ ({ data := #[62] } : ByteArray) = { data := (32 :: Lib.itoa y ++ [62]).toArray } by rw [one_app, app_one])
          go_wp2_with fail
          refine (implFI' y _ hyi.1 hyi.2 HTAB4.out).mono ?_
          rintro e w5 ⟨rfl, hb5⟩
          have HB5 := Lib.hid (HB4.out.on hb5)
          have HF5 := Lib.hid (HF4.out.trans (hb5.mono HF4.out.size))
          have HP5 := Lib.hid (HP4.out.on hb5)
          have HQ5 := Lib.hid (HQ4.out.on hb5)
          have HQC5 := Lib.hid ((hb5.block q HQ4.out.2.2).trans HQC4.out)
          have hlo6 : lo ≤ w5.heap.size := Nat.le_trans hlo4 hb5.size
          have HW := Lib.hid (writeT lo b (segT l m k) (32 :: Lib.itoa y ++ [62]) w5 HB5.out (by simp; omega) hlo6)
          rw [← HSTR.out] at HW
          obtain ⟨NN, hNN⟩ : ∃ q : Int, q = ((32 :: Lib.itoa y ++ [62]).length : Int) := ⟨_, rfl⟩
          rw [← hNN] at HW
          clear hb5 z0 z1 hNN
          go_wp2_with fail
          refine HW.out.mono ?_
          rintro e w6 ⟨rfl, hb6, hf6⟩
          have HB6 := Lib.hid hb6
          obtain ⟨hq6, hqc6⟩ := hf6.box HQ5.out HQC5.out (by decide) hqb
          have HQ6 := Lib.hid hq6
          have HF6 := Lib.hid (HF5.out.trans (hf6.frame.below (by omega) (by omega)))
          have HP6 := Lib.hid (show PairRow gn l m w6 from ⟨fun i hi => ⟨(World.cell?_of_block (a := ⟨gn, i * 2, none⟩) (hf6.frame.block gn hglo (by omega))).trans (HP5.out.1 i hi).1, (World.cell?_of_block (a := ⟨gn, i * 2 + 1, none⟩) (hf6.frame.block gn hglo (by omega))).trans (HP5.out.1 i hi).2⟩, by have := hf6.frame.size; omega⟩)
          have hlo7 : lo ≤ w6.heap.size := Nat.le_trans hlo6 hf6.frame.size
          have z0 : w6.cell? ⟨q, 0, none⟩ = some (.int .i64 z) := HQ6.out.1 0 _ rfl
          have HTAB6 := Lib.hid (HT.out.on HF6.out)
          clear hb6 hf6 hq6 hqc6 HW
          go_wp2_with fail
          refine (implFSet z _ HTAB6.out).mono ?_
          rintro e w7 ⟨rfl, hb7⟩
          have HB7 := Lib.hid (HB6.out.on hb7)
          have HF7 := Lib.hid (HF6.out.trans (hb7.mono HF6.out.size))
          have HP7 := Lib.hid (HP6.out.on hb7)
          have hlo8 : lo ≤ w7.heap.size := Nat.le_trans hlo7 hb7.size
          clear hb7 z0
          go_wp2_with fail
          refine (writeT lo b _ (setT z) w7 HB7.out (by simp; omega) hlo8).mono ?_
          rintro e w8 ⟨rfl, hb8, hf8⟩
          rw [← HS2.out] at hb8
          have HB8 := Lib.hid hb8
          have HF8 := Lib.hid (HF7.out.trans (hf8.frame.below (by omega) (by omega)))
          have HP8 := Lib.hid (show PairRow gn l m w8 from ⟨fun i hi => ⟨(World.cell?_of_block (a := ⟨gn, i * 2, none⟩) (hf8.frame.block gn hglo (by omega))).trans (HP7.out.1 i hi).1, (World.cell?_of_block (a := ⟨gn, i * 2 + 1, none⟩) (hf8.frame.block gn hglo (by omega))).trans (HP7.out.1 i hi).2⟩, by have := hf8.frame.size; omega⟩)
          have hlo9 : lo ≤ w8.heap.size := Nat.le_trans hlo8 hf8.frame.size
          clear hb8 hf8
          go_wp2
          go_roundw
          case rel => exact ⟨k + 1, by omega, by go_num, HB8.out, HF8.out, HP8.out, hlo9⟩
          case measure => simp [intOf]; omega
        · obtain rfl : k = 0 := by omega
          have HS2 := Lib.hid (show segT l m (0 + 1) = segT l m 0 ++ setT z by rw [segT_succ, HZ.out]; simp)
          go_wp2_with fail
          refine (implFSet z _ HTAB4.out).mono ?_
          rintro e w7 ⟨rfl, hb7⟩
          have HB7 := Lib.hid (HB4.out.on hb7)
          have HF7 := Lib.hid (HF4.out.trans (hb7.mono HF4.out.size))
          have HP7 := Lib.hid (HP4.out.on hb7)
          have hlo8 : lo ≤ w7.heap.size := Nat.le_trans hlo4 hb7.size
          clear hb7 z0 z1
          go_wp2_with fail
          refine (writeT lo b _ (setT z) w7 HB7.out (by omega) hlo8).mono ?_
          rintro e w8 ⟨rfl, hb8, hf8⟩
          rw [← HS2.out] at hb8
          have HB8 := Lib.hid hb8
          have HF8 := Lib.hid (HF7.out.trans (hf8.frame.below (by omega) (by omega)))
          have HP8 := Lib.hid (show PairRow gn l m w8 from ⟨fun i hi => ⟨(World.cell?_of_block (a := ⟨gn, i * 2, none⟩) (hf8.frame.block gn hglo (by omega))).trans (HP7.out.1 i hi).1, (World.cell?_of_block (a := ⟨gn, i * 2 + 1, none⟩) (hf8.frame.block gn hglo (by omega))).trans (HP7.out.1 i hi).2⟩, by have := hf8.frame.size; omega⟩)
          have hlo9 : lo ≤ w8.heap.size := Nat.le_trans hlo8 hf8.frame.size
          clear hb8 hf8
          go_wp2
          go_roundw
          case rel => exact ⟨0 + 1, by omega, by go_num, HB8.out, HF8.out, HP8.out, hlo9⟩
          case measure => simp [intOf]; omega
      · obtain rfl : k = l.length := by omega
        go_wp2_with fail
        refine (readS lo b _ _ HB.out hlo5).mono ?_
        rintro e w2 ⟨rfl, hb⟩
        have HF2 := Lib.hid (HF.out.trans (hb.mono (by omega)))
        go_wp2
        go_ret
        exact ⟨by rw [HE.out]; rfl, HF2.out⟩

set_option maxHeartbeats 2000000 in
set_option maxRecDepth 100000 in
theorem specFTree (v u : Value) (l m : List Int) (w : World) (h : Ints w v l) (g : Ints w u m) (hl : l.length ≤ 1048576) (hm : m.length ≤ 1048576) :
    Calls Tryd.prog 22 #[.agg #[v, u]] w fun e w' => e = .returned (.string ⟨(treeT l m).toArray⟩) ∧ Below w.heap.size w w' := by
  obtain ⟨ad, cap, rfl, -, -⟩ := h.form
  obtain ⟨bd, cap', rfl, -, -⟩ := g.form
  have HI := Lib.hid h
  have HJ := Lib.hid g
  clear h g
  obtain ⟨T, hT⟩ : ∃ T : ByteArray, T = { data := (treeT l m).toArray } := ⟨_, rfl⟩
  rw [← hT]
  have HTT := Lib.hid hT
  clear hT
  obtain ⟨w0, hw0⟩ : ∃ w0, w0 = (w.alloc (.cells #[.slice ad l.length cap, .slice bd m.length cap'] 45)) := ⟨_, rfl⟩
  have F0 := Lib.hid (show Below w.heap.size w w0 by rw [hw0]; exact (Below.refl _ w).alloc (Nat.le_refl _) _)
  have A0 := Lib.hid (show Box w.heap.size [.slice ad l.length cap, .slice bd m.length cap'] w0 by rw [hw0]; exact Box.new w _ _)
  go_enter Tryd.func22, Tryd.ntmps22
  go_upto_region 1 with fail
  rw [← hw0]
  clear hw0
  go_wp2
  go_loopw [3, 4] (fun s c wr => ∃ (k : Nat) (S : ByteArray), k ≤ l.length ∧ c = .int .i64 k ∧ s = .string S ∧ Hid (S = { data := (segT l m k).toArray }) ∧ Hid (Below w.heap.size w wr) ∧ Hid (Box w.heap.size [.slice ad l.length cap, .slice bd m.length cap'] wr) ∧ Hid (0 < k → TreeP l m)) (fun _ c _ => l.length - (intOf c).toNat)
  case atStart => exact ⟨0, _, by omega, rfl, rfl, rfl, F0.out, A0.out, fun h => absurd h (by omega)⟩
  case round =>
    clear F0 A0
    obtain ⟨k, S, hk, rfl, rfl, HS, HF, HA, HK⟩ := hrel
    have x0 : wr.cell? ⟨w.heap.size, 0, none⟩ = some (.slice ad l.length cap) := HA.out.1 0 _ rfl
    have x1 : wr.cell? ⟨w.heap.size, 1, none⟩ = some (.slice bd m.length cap') := HA.out.1 1 _ rfl
    by_cases hlt : k < l.length
    · go_wp2_with fail
      refine (specIsTree _ _ l m _ (HI.out.on HF.out) (HJ.out.on HF.out) hl hm).mono ?_
      rintro e w1 ⟨r, rfl, hr, hb⟩
      have HR := Lib.hid hr
      have F1 := Lib.hid (HF.out.trans (hb.mono HF.out.size))
      have A1 := Lib.hid (HA.out.on hb)
      clear hb hr x0 x1
      cases r with
      | false =>
        have HE2 := Lib.hid (show T = S by
          have hno : ¬ TreeP l m := fun h => absurd (HR.out.2 h) (by decide)
          have hk0 : k = 0 := by
            rcases Nat.eq_zero_or_pos k with h | h
            · exact h
            · exact absurd (HK.out h) hno
          rw [HTT.out, HS.out]
          unfold treeT
          rw [if_neg hno, hk0]
          rfl)
        go_wp2
        go_ret
        exact ⟨by rw [HE2.out]; rfl, F1.out⟩
      | true =>
        have HV := Lib.hid (HR.out.1 (by first | rfl | trivial))
        have hkm : k < m.length := by have := HV.out.2.1; omega
        have hl20 := HV.out.1.2
        obtain ⟨b2, off2, cap2, hv, _, _, hb2, hcell2⟩ := (HI.out.on F1.out).pos (by omega)
        simp only [Value.slice.injEq] at hv
        obtain ⟨rfl, -, rfl⟩ := hv
        obtain ⟨b3, off3, cap3, hv, _, _, hb3, hcell3⟩ := (HJ.out.on F1.out).pos (by omega)
        simp only [Value.slice.injEq] at hv
        obtain ⟨rfl, -, rfl⟩ := hv
        obtain ⟨z, hz⟩ : ∃ z, z = nth l k := ⟨_, rfl⟩
        obtain ⟨y, hy⟩ : ∃ z, z = nth m k := ⟨_, rfl⟩
        have e0 := hcell2 k hlt
        have e1 := hcell3 k hkm
        rw [← hz] at e0
        rw [← hy] at e1
        have hyi := nth_in HJ.out.1 k
        rw [← hy] at hyi
        have hl9 := segT_len l m HJ.out.1 k
        have hy21 := Lib.itoa_length_le y hyi.1 hyi.2
        have hz147 := setT_len z
        have x0 : w1.cell? ⟨w.heap.size, 0, none⟩ = some (.slice (some ⟨b2, off2, none⟩) l.length cap) := A1.out.1 0 _ rfl
        have x1 : w1.cell? ⟨w.heap.size, 1, none⟩ = some (.slice (some ⟨b3, off3, none⟩) m.length cap') := A1.out.1 1 _ rfl
        have hSs : S.size ≤ 3400 := by rw [HS.out]; show (segT l m k).toArray.size ≤ 3400; simp; omega
        have HC2 := Lib.hid hcell2
        clear hcell2 hcell3
        by_cases hk0 : 0 < k
        · have hkd : (0 : Int) < (k : Int) := by omega
          obtain ⟨Y, hY⟩ : ∃ Z : ByteArray, Z = { data := (Lib.itoa y).toArray } := ⟨_, rfl⟩
          obtain ⟨Z, hZ⟩ : ∃ Z : ByteArray, Z = { data := (setT z).toArray } := ⟨_, rfl⟩
          have HSTR := Lib.hid (show (((S ++ ({ data := #[32] } : ByteArray)) ++ Y) ++ ({ data := #[62] } : ByteArray)) ++ Z = { data := (segT l m (k + 1)).toArray } by
            rw [hZ, hY, HS.out, app_one, str_app, app_one, str_app, segT_succ, if_pos hk0, hz, hy]
            congr 2
            simp [List.append_assoc])
          have HC1 := Lib.hid (fun W => specFI y W hyi.1 hyi.2)
          rw [← hY] at HC1
          have HC3 := Lib.hid (fun W => specFSet z W)
          rw [← hZ] at HC3
          have hZs : Z.size ≤ 147 := by rw [hZ]; show (setT z).toArray.size ≤ 147; simpa using hz147
          have hYs : Y.size ≤ 21 := by rw [hY]; show (Lib.itoa y).toArray.size ≤ 21; simpa using hy21
          have hs1 : (S ++ ({ data := #[32] } : ByteArray)).size ≤ 3401 := by rw [ByteArray.size_append]; show S.size + 1 ≤ 3401; omega
          have hs2 : ((S ++ ({ data := #[32] } : ByteArray)) ++ Y).size ≤ 3422 := by rw [ByteArray.size_append]; omega
          have hs3 : (((S ++ ({ data := #[32] } : ByteArray)) ++ Y) ++ ({ data := #[62] } : ByteArray)).size ≤ 3423 := by rw [ByteArray.size_append]; show _ + 1 ≤ 3423; omega
          clear hz hy hZ hY
          go_wp2_with fail
          refine (HC1.out _).mono ?_
          rintro e w5 ⟨rfl, hb5⟩
          have A5 := Lib.hid (A1.out.on hb5)
          have F5 := Lib.hid (F1.out.trans (hb5.mono F1.out.size))
          have e0 := (hb5.cell (p := ⟨b2, off2 + k, none⟩) hb2).trans e0
          clear x0 x1 e1 hb5
          have x0 : w5.cell? ⟨w.heap.size, 0, none⟩ = some (.slice (some ⟨b2, off2, none⟩) l.length cap) := A5.out.1 0 _ rfl
          go_wp2_with fail
          refine (HC3.out _).mono ?_
          rintro e w6 ⟨rfl, hb6⟩
          have A6 := Lib.hid (A5.out.on hb6)
          have F6 := Lib.hid (F5.out.trans (hb6.mono F5.out.size))
          clear x0 e0 hb6
          go_wp2
          go_roundw
          case rel => exact ⟨k + 1, _, by omega, by go_num, rfl, HSTR.out, F6.out, A6.out, fun _ => HV.out⟩
          case measure => simp [intOf]; omega
        · obtain rfl : k = 0 := by omega
          obtain ⟨Z, hZ⟩ : ∃ Z : ByteArray, Z = { data := (setT z).toArray } := ⟨_, rfl⟩
          have HSTR := Lib.hid (show S ++ Z = { data := (segT l m (0 + 1)).toArray } by
            rw [hZ, HS.out, str_app, segT_succ, hz]
            simp)
          have HC3 := Lib.hid (fun W => specFSet z W)
          rw [← hZ] at HC3
          have hZs : Z.size ≤ 147 := by rw [hZ]; show (setT z).toArray.size ≤ 147; simpa using hz147
          rw [Nat.add_zero] at e0
          clear hz hy hZ
          go_wp2_with fail
          refine (HC3.out _).mono ?_
          rintro e w6 ⟨rfl, hb6⟩
          have A6 := Lib.hid (A1.out.on hb6)
          have F6 := Lib.hid (F1.out.trans (hb6.mono F1.out.size))
          clear x0 x1 e0 e1 hb6
          go_wp2
          go_roundw
          case rel => exact ⟨0 + 1, _, by omega, by go_num, rfl, HSTR.out, F6.out, A6.out, fun _ => HV.out⟩
          case measure => simp [intOf]; omega
    · obtain rfl : k = l.length := by omega
      have HE2 := Lib.hid (show T = S by
        rw [HTT.out, HS.out]
        unfold treeT
        split
        · rfl
        · rename_i hno
          have hk0 : l.length = 0 := by
            rcases Nat.eq_zero_or_pos l.length with h | h
            · exact h
            · exact absurd (HK.out h) hno
          rw [hk0]
          rfl)
      go_wp2
      go_ret
      exact ⟨by rw [HE2.out]; rfl, HF.out⟩

end Go.Proofs.YtcpchdnhhjhpaacDoor
