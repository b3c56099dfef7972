/- FormatGraph. -/
import Derived.Test.YtcpchdnhhjhpaacDoorFa
import Derived.Test.YtcpchdnhhjhpaacDoorFt
import Derived.Test.YtcpchdnhhjhpaacDoorS3
namespace Go.Proofs.YtcpchdnhhjhpaacDoor
set_option linter.unusedVariables false
set_option linter.unusedSimpArgs false
open Go.RowKit

/-- What is written of the first k edges. -/
def segG (ll : List (List Int)) (k : Nat) : List UInt8 := (List.range k).flatMap fun i => 32 :: Lib.itoa (nth (subL ll i) 0) ++ Lib.itoa (nth (subL ll i) 1)

theorem segG_succ (ll : List (List Int)) (k : Nat) : segG ll (k + 1) = segG ll k ++ (32 :: Lib.itoa (nth (subL ll k) 0) ++ Lib.itoa (nth (subL ll k) 1)) := by
  unfold segG
  rw [List.range_succ, List.flatMap_append]
  simp

def Two (ll : List (List Int)) : Prop := ∀ i, i < ll.length → (subL ll i).length = 2 ∧ inI64 (subL ll i)

theorem edgesR_two (n : Int) (l : List Int) : Two (edgesR n l) := fun i hi => by
  have hm : subL (edgesR n l) i ∈ edgesR n l := by unfold subL; simp [List.getD, hi]
  generalize hx : subL (edgesR n l) i = x at hm
  unfold edgesR at hm
  split at hm
  · rename_i hg
    have h7 : l.length ≤ 7 := by have := hg.2.1; have := hg.2.2.1; omega
    unfold allE rowE at hm
    simp only [List.mem_flatMap, List.mem_map, List.mem_filter, List.mem_range] at hm
    obtain ⟨i, hi, j, ⟨hj, -⟩, rfl⟩ := hm
    refine ⟨rfl, fun y hy => ?_⟩
    simp at hy
    rcases hy with rfl | rfl <;> omega
  · cases hm

theorem segG_len (ll : List (List Int)) (h : Two ll) : ∀ k, k ≤ ll.length → (segG ll k).length ≤ 43 * k
  | 0, _ => by simp [segG]
  | k + 1, hk => by
    have ih := segG_len ll h k (by omega)
    obtain ⟨-, h2⟩ := h k (by omega)
    have h3 := Lib.itoa_length_le (nth (subL ll k) 0) (nth_in h2 0).1 (nth_in h2 0).2
    have h4 := Lib.itoa_length_le (nth (subL ll k) 1) (nth_in h2 1).1 (nth_in h2 1).2
    rw [segG_succ]
    simp
    omega

def graphT (n : Int) (l : List Int) : List UInt8 := if IsG n l then Lib.itoa n ++ [58] ++ segG (edgesR n l) (edgesR n l).length else []

/-- The slice of an edge, and where its ends lie. -/
theorem edge_cells {lo hi : Nat} {w : World} {v : Value} {ll : List (List Int)} (h : OwnII lo hi w v ll) (h2 : Two ll) {k : Nat} (hk : k < ll.length) :
    ∃ g cap b c, v = .slice (some ⟨g, 0, none⟩) ll.length cap ∧ cap ≤ maxLen ∧ 2 ≤ c ∧ c ≤ maxLen ∧ g < w.heap.size ∧ b < w.heap.size ∧ w.cell? ⟨g, k, none⟩ = some (.slice (some ⟨b, 0, none⟩) 2 c) ∧ w.cell? ⟨b, 0, none⟩ = some (.int .i64 (nth (subL ll k) 0)) ∧ w.cell? ⟨b, 1, none⟩ = some (.int .i64 (nth (subL ll k) 1)) := by
  obtain ⟨vs, h⟩ := h
  rcases h.form with ⟨-, hn⟩ | ⟨g, cap, hv, hg, -, hm, hcell⟩
  · rw [hn] at hk; simp at hk
  · rcases (h.2.2.1 k hk).form with ⟨-, hn⟩ | ⟨b, c, hs, -, hb, hc, hcm, hcl, -⟩
    · have := (h2 k hk).1; rw [hn] at this; simp at this
    · have h2k := (h2 k hk).1
      rw [h2k] at hs hc hcl
      exact ⟨g, cap, b, c, hv, hm, hc, hcm, hg, hb, by rw [← hs]; exact hcell k hk, hcl 0 (by omega), hcl 1 (by omega)⟩

set_option maxHeartbeats 2000000 in
set_option maxRecDepth 100000 in
theorem implFGraph (n : Int) (v : Value) (l : List Int) (w : World) (h : Ints w v l) (hl : l.length ≤ 1048576) (hn0 : -9223372036854775808 ≤ n) (hn1 : n ≤ 9223372036854775807) (htab : TabP w) :
    Calls Tryd.prog 14 #[.agg #[.int .i64 n, v]] w fun e w' => e = .returned (.string ⟨(graphT n l).toArray⟩) ∧ Below w.heap.size w w' := by
  obtain ⟨ad, cap, rfl, -, -⟩ := h.form
  have HI := Lib.hid h
  have HT := Lib.hid htab
  clear h htab
  obtain ⟨T, hT⟩ : ∃ T, T = graphT n l := ⟨_, rfl⟩
  rw [← hT]
  have HTT := Lib.hid hT
  clear hT
  obtain ⟨w0, hw0⟩ : ∃ w0, w0 = (w.alloc (.cells #[.int .i64 n, .slice ad l.length cap] 29)) := ⟨_, rfl⟩
  have F0 := Lib.hid (show Below w.heap.size w w0 by rw [hw0]; exact (Below.refl _ w).alloc (Nat.le_refl _) _)
  have A0 := Lib.hid (show Box w.heap.size [.int .i64 n, .slice ad l.length cap] w0 by rw [hw0]; exact Box.new w _ _)
  have x0 : w0.cell? ⟨w.heap.size, 0, none⟩ = some (.int .i64 n) := A0.out.1 0 _ rfl
  have x1 : w0.cell? ⟨w.heap.size, 1, none⟩ = some (.slice ad l.length cap) := A0.out.1 1 _ rfl
  go_enter Tryd.func14, Tryd.ntmps14
  go_upto_region 1 with fail
  rw [← hw0]
  clear hw0
  go_wp2_with fail
  refine (implIsG_any n _ l _ (HI.out.on F0.out)).mono ?_
  rintro e w1 ⟨r, rfl, hr, hb⟩
  have HR := Lib.hid hr
  have F1 := Lib.hid (F0.out.trans (hb.mono F0.out.size))
  have A1 := Lib.hid (A0.out.on hb)
  clear hb hr x0 x1 A0
  cases r with
  | false =>
    have HE := Lib.hid (show T = [] by rw [HTT.out]; unfold graphT; rw [if_neg (fun h => absurd (HR.out.2 h) (by decide))])
    go_wp2
    go_ret
    exact ⟨by rw [HE.out]; rfl, F1.out⟩
  | true =>
    have HV := Lib.hid (HR.out.1 (by first | rfl | trivial))
    have HE := Lib.hid (show T = Lib.itoa n ++ [58] ++ segG (edgesR n l) (edgesR n l).length by rw [HTT.out]; unfold graphT; rw [if_pos HV.out])
    obtain ⟨LL, hLL⟩ : ∃ LL, LL = edgesR n l := ⟨_, rfl⟩
    have HTWO := Lib.hid (show Two LL by rw [hLL]; exact edgesR_two n l)
    have hLn : LL.length ≤ 49 := by rw [hLL]; exact edgesR_length n l
    rw [← hLL] at HE
    have HLL := Lib.hid hLL
    clear hLL
    obtain ⟨b, hbq⟩ : ∃ b, b = w1.heap.size := ⟨_, rfl⟩
    obtain ⟨w2, hw2⟩ : ∃ w2, w2 = w1.alloc (.cells #[.pointer none, .slice none 0 0] 61) := ⟨_, rfl⟩
    have hb2 : Below w1.heap.size w1 w2 := by rw [hw2]; exact (Below.refl _ _).alloc (Nat.le_refl _) _
    have A2 := Lib.hid (A1.out.on hb2)
    have F2 := Lib.hid (F1.out.trans (hb2.mono F1.out.size))
    have hnew : w2.heap[b]? = some (.cells #[.pointer none, .slice none 0 0] 61 (0, 0)) := by rw [hw2, hbq]; exact heap_alloc_new w1 _
    have hz2 : w2.heap.size = b + 1 := by rw [hw2, hbq]; simp
    have hwb : w.heap.size < b := by rw [hbq]; exact A1.out.2.2
    have x0 : w2.cell? ⟨w.heap.size, 0, none⟩ = some (.int .i64 n) := A2.out.1 0 _ rfl
    have hni := Lib.itoa_length_le n hn0 hn1
    have HNEW := Lib.hid hnew
    have HZ2 := Lib.hid hz2
    clear hb2 hnew hz2 A1
    go_upto_region 4 with fail
    rw [← hbq, ← hw2]
    clear hw2 hbq
    go_wp2_with fail
    refine (implFI' n _ hn0 hn1 (HT.out.on F2.out)).mono ?_
    rintro e w3 ⟨rfl, hb3⟩
    obtain ⟨lo, hlo⟩ : ∃ lo, lo = w3.heap.size := ⟨_, rfl⟩
    have hblo : b < lo := by have := hb3.size; have := HZ2.out; omega
    have B3 := Lib.hid (Bu.fresh (lo := lo) ((hb3.block b (by have := HZ2.out; omega)).trans HNEW.out) hblo)
    have A3 := Lib.hid (A2.out.on hb3)
    have F3 := Lib.hid (F2.out.trans (hb3.mono F2.out.size))
    have hlo3 : lo ≤ w3.heap.size := by omega
    have HW := Lib.hid (writeS lo b [] (Lib.itoa n ++ [58]) w3 B3.out (by simp; omega) hlo3)
    rw [← app_one] at HW
    clear hb3 x0 A2 hlo
    go_wp2_with fail
    refine HW.out.mono ?_
    rintro e w4 ⟨rfl, hb4, hf4⟩
    rw [List.nil_append] at hb4
    have B4 := Lib.hid hb4
    have A4 := Lib.hid (A3.out.blk (hf4.block _ (by omega) (by omega)) hf4.size)
    have F4 := Lib.hid (F3.out.trans (hf4.below (by omega) (by omega)))
    have hlo4 : lo ≤ w4.heap.size := Nat.le_trans hlo3 hf4.size
    have x0 : w4.cell? ⟨w.heap.size, 0, none⟩ = some (.int .i64 n) := A4.out.1 0 _ rfl
    have x1 : w4.cell? ⟨w.heap.size, 1, none⟩ = some (.slice ad l.length cap) := A4.out.1 1 _ rfl
    clear hb4 hf4 HW
    go_wp2_with fail
    refine (implEdges n _ l _ (HI.out.on F4.out)).mono ?_
    rintro e w5 ⟨vl, rfl, ho, hb⟩
    rw [← HLL.out] at ho
    have B5 := Lib.hid (B4.out.on hb)
    have F5 := Lib.hid (F4.out.trans (hb.mono F4.out.size))
    have hlo5 : lo ≤ w5.heap.size := Nat.le_trans hlo4 hb.size
    obtain ⟨hi, hhi⟩ : ∃ hi, hi = w5.heap.size := ⟨_, rfl⟩
    have O5 := Lib.hid (show OwnII lo hi w5 vl LL from by rw [hhi]; exact ho.mono hlo4 (Nat.le_refl _))
    obtain ⟨al, capl, rfl, hcl⟩ : ∃ a c, vl = .slice a LL.length c ∧ c ≤ maxLen := by
      obtain ⟨vs, hh⟩ := ho
      rcases hh.form with ⟨rfl, hn⟩ | ⟨g, c, rfl, -, -, hm, -⟩
      · exact ⟨none, 0, by rw [hn]; rfl, by unfold maxLen; omega⟩
      · exact ⟨_, c, rfl, hm⟩
    unfold maxLen at hcl
    clear ho hb x0 x1 hhi
    go_wp2
    go_loopw [17] (fun c wr => ∃ k : Nat, k ≤ LL.length ∧ c = .int .i64 k ∧ Hid (Bu lo b (Lib.itoa n ++ [58] ++ segG LL k) wr) ∧ Hid (Below w.heap.size w wr) ∧ Hid (OwnII lo hi wr (.slice al LL.length capl) LL) ∧ lo ≤ wr.heap.size) (fun c _ => LL.length - (intOf c).toNat)
    case atStart => exact ⟨0, by omega, rfl, (show Bu lo b (Lib.itoa n ++ [58] ++ segG LL 0) w5 from by have := B5.out; simpa [segG] using this), F5.out, O5.out, hlo5⟩
    case round =>
      clear B3 B4 F3 F4 A3 A4 hlo3 hlo4 B5 F5 O5 hlo5
      obtain ⟨k, hk, rfl, HB, HF, HO, hlo5⟩ := hrel
      by_cases hlt : k < LL.length
      · obtain ⟨g2, cap2, b2, c2, hv, -, hc2, hc2m, hg2, hb2, e0, e1, e2⟩ := edge_cells HO.out HTWO.out hlt
        simp only [Value.slice.injEq] at hv
        obtain ⟨rfl, -, rfl⟩ := hv
        obtain ⟨z, hz⟩ : ∃ z, z = nth (subL LL k) 0 := ⟨_, rfl⟩
        obtain ⟨y, hy⟩ : ∃ z, z = nth (subL LL k) 1 := ⟨_, rfl⟩
        rw [← hz] at e1
        rw [← hy] at e2
        have hin := (HTWO.out k hlt).2
        have hzi := nth_in hin 0
        have hyi := nth_in hin 1
        rw [← hz] at hzi
        rw [← hy] at hyi
        have hl9 := segG_len LL HTWO.out k hk
        have hz21 := Lib.itoa_length_le z hzi.1 hzi.2
        have hy21 := Lib.itoa_length_le y hyi.1 hyi.2
        obtain ⟨Z, hZ⟩ : ∃ Z : ByteArray, Z = { data := (Lib.itoa z).toArray } := ⟨_, rfl⟩
        obtain ⟨Y, hY⟩ : ∃ Z : ByteArray, Z = { data := (Lib.itoa y).toArray } := ⟨_, rfl⟩
        have HS2 := Lib.hid (show Lib.itoa n ++ [58] ++ segG LL (k + 1) = (Lib.itoa n ++ [58] ++ segG LL k) ++ (32 :: Lib.itoa z ++ Lib.itoa y) by rw [segG_succ, hz, hy]; simp [List.append_assoc])
        have HSTR := Lib.hid (show (({ data := #[32] } : ByteArray) ++ Z) ++ Y = { data := (32 :: Lib.itoa z ++ Lib.itoa y).toArray } by rw [hZ, hY, one_app, str_app])
        have k1 : ∀ X : Since wr, X.val.cell? ⟨b2, 0, none⟩ = some (.int .i64 z) := fun X => (X.prop.cell (p := ⟨b2, 0, none⟩) hb2).trans e1
        have k2 : ∀ X : Since wr, X.val.cell? ⟨b2, 1, none⟩ = some (.int .i64 y) := fun X => (X.prop.cell (p := ⟨b2, 1, none⟩) hb2).trans e2
        have HC1 : Hid (∀ X : Since wr, Calls Tryd.prog 41 #[.int .i64 z] X.val fun e w' => e = .returned (.string Z) ∧ Below X.val.heap.size X.val w') := fun X => by
          rw [hZ]; exact implFI' z _ hzi.1 hzi.2 ((HT.out.on HF.out).on X.prop)
        have HC2 : Hid (∀ X : Since wr, Calls Tryd.prog 41 #[.int .i64 y] X.val fun e w' => e = .returned (.string Y) ∧ Below X.val.heap.size X.val w') := fun X => by
          rw [hY]; exact implFI' y _ hyi.1 hyi.2 ((HT.out.on HF.out).on X.prop)
        have HWR : Hid (∀ X : Since wr, Calls Tryd.prog 40 #[.pointer (some ⟨b, 0, none⟩), .string ((({ data := #[32] } : ByteArray) ++ Z) ++ Y)] X.val fun e w' => e = .returned (.tuple #[.int .i64 ((32 :: Lib.itoa z ++ Lib.itoa y).length : Int), .nilIface]) ∧ Bu lo b (Lib.itoa n ++ [58] ++ segG LL (k + 1)) w' ∧ FrT lo b X.val w') := fun X => by
          rw [HSTR.out, HS2.out]
          exact writeT lo b _ _ X.val (HB.out.on X.prop) (by simp; omega) (Nat.le_trans hlo5 X.prop.size)
        obtain ⟨NN, hNN⟩ : ∃ q : Int, q = ((32 :: Lib.itoa z ++ Lib.itoa y).length : Int) := ⟨_, rfl⟩
        rw [← hNN] at HWR
        have hZs : Z.size ≤ 21 := by rw [hZ]; show (Lib.itoa z).toArray.size ≤ 21; simpa using hz21
        have hYs : Y.size ≤ 21 := by rw [hY]; show (Lib.itoa y).toArray.size ≤ 21; simpa using hy21
        clear hz hy hZ hY hNN e1 e2
        go_wp2
        refine wp_region_since_call 10 (by kernel_rfl) (by kernel_rfl) ?_
        simp only [List.take_succ_cons, List.take_zero, List.drop_succ_cons, List.drop_zero]
        repeat (go_big_quiet_step (first | with_reducible exact since_call (HC1.out _) | with_reducible exact since_call (HC2.out _)))
        refine wpQuiet_nil ?_
        intro X
        have HWX := Lib.hid (HWR.out X)
        have HXO := Lib.hid (HO.out.keepB X.prop)
        have HXF := Lib.hid (HF.out.trans (X.prop.mono HF.out.size))
        have hlo6 : lo ≤ X.val.heap.size := Nat.le_trans hlo5 X.prop.size
        clear k1 k2 e0
        go_wp2_with fail
        refine HWX.out.mono ?_
        rintro e w6 ⟨rfl, hb6, hf6⟩
        have HB6 := Lib.hid hb6
        have HO6 := Lib.hid (hf6.ownII HXO.out hblo)
        have HF6 := Lib.hid (HXF.out.trans (hf6.frame.below (by omega) (by omega)))
        have hlo7 : lo ≤ w6.heap.size := Nat.le_trans hlo6 hf6.frame.size
        clear hb6 hf6
        go_wp2_with fail
        refine thenQ_normal ?_
        refine wpQuiet_nil ?_
        go_wp2
        go_roundw
        case rel => exact ⟨k + 1, by omega, by go_num, HB6.out, HF6.out, HO6.out, hlo7⟩
        case measure => simp [intOf]; omega
      · obtain rfl : k = LL.length := by omega
        go_wp2_with fail
        refine (readS lo b _ _ HB.out hlo5).mono ?_
        rintro e w2 ⟨rfl, hb⟩
        have HF2 := Lib.hid (HF.out.trans (hb.mono (by omega)))
        go_wp2
        go_ret
        exact ⟨by rw [HE.out, List.append_assoc]; rfl, HF2.out⟩

set_option maxHeartbeats 2000000 in
set_option maxRecDepth 100000 in
theorem specFGraph (n : Int) (v : Value) (l : List Int) (w : World) (h : Ints w v l) (hl : l.length ≤ 1048576) (hn0 : -9223372036854775808 ≤ n) (hn1 : n ≤ 9223372036854775807) :
    Calls Tryd.prog 12 #[.agg #[.int .i64 n, v]] w fun e w' => e = .returned (.string ⟨(graphT n l).toArray⟩) ∧ Below w.heap.size w w' := by
  obtain ⟨ad, cap, rfl, -, -⟩ := h.form
  have HI := Lib.hid h
  clear h
  obtain ⟨T, hT⟩ : ∃ T : ByteArray, T = { data := (graphT n l).toArray } := ⟨_, rfl⟩
  rw [← hT]
  have HTT := Lib.hid hT
  clear hT
  obtain ⟨w0, hw0⟩ : ∃ w0, w0 = (w.alloc (.cells #[.int .i64 n, .slice ad l.length cap] 29)) := ⟨_, rfl⟩
  have F0 := Lib.hid (show Below w.heap.size w w0 by rw [hw0]; exact (Below.refl _ w).alloc (Nat.le_refl _) _)
  have A0 := Lib.hid (show Box w.heap.size [.int .i64 n, .slice ad l.length cap] w0 by rw [hw0]; exact Box.new w _ _)
  have x0 : w0.cell? ⟨w.heap.size, 0, none⟩ = some (.int .i64 n) := A0.out.1 0 _ rfl
  have x1 : w0.cell? ⟨w.heap.size, 1, none⟩ = some (.slice ad l.length cap) := A0.out.1 1 _ rfl
  go_enter Tryd.func12, Tryd.ntmps12
  go_upto_region 1 with fail
  rw [← hw0]
  clear hw0
  go_wp2_with fail
  refine (specIsG_any n _ l _ (HI.out.on F0.out)).mono ?_
  rintro e w1 ⟨r, rfl, hr, hb⟩
  have HR := Lib.hid hr
  have F1 := Lib.hid (F0.out.trans (hb.mono F0.out.size))
  have A1 := Lib.hid (A0.out.on hb)
  clear hb hr x0 x1 A0
  cases r with
  | false =>
    have HE := Lib.hid (show T = { data := #[] } by rw [HTT.out]; unfold graphT; rw [if_neg (fun h => absurd (HR.out.2 h) (by decide))])
    go_wp2
    go_ret
    exact ⟨by rw [HE.out]; rfl, F1.out⟩
  | true =>
    have HV := Lib.hid (HR.out.1 (by first | rfl | trivial))
    have HE := Lib.hid (show T = { data := (Lib.itoa n ++ [58] ++ segG (edgesR n l) (edgesR n l).length).toArray } by rw [HTT.out]; unfold graphT; rw [if_pos HV.out])
    obtain ⟨LL, hLL⟩ : ∃ LL, LL = edgesR n l := ⟨_, rfl⟩
    have HTWO := Lib.hid (show Two LL by rw [hLL]; exact edgesR_two n l)
    have hLn : LL.length ≤ 49 := by rw [hLL]; exact edgesR_length n l
    rw [← hLL] at HE
    have HLL := Lib.hid hLL
    clear hLL
    have x0 : w1.cell? ⟨w.heap.size, 0, none⟩ = some (.int .i64 n) := A1.out.1 0 _ rfl
    have hni := Lib.itoa_length_le n hn0 hn1
    go_wp2_with fail
    refine (specFI n _ hn0 hn1).mono ?_
    rintro e w3 ⟨rfl, hb3⟩
    have A3 := Lib.hid (A1.out.on hb3)
    have F3 := Lib.hid (F1.out.trans (hb3.mono F1.out.size))
    have HS0 := Lib.hid (show (({ data := (Lib.itoa n).toArray } : ByteArray) ++ ({ data := #[58] } : ByteArray)) = { data := (Lib.itoa n ++ [58] ++ segG LL 0).toArray } by rw [app_one]; simp [segG])
    have x0 : w3.cell? ⟨w.heap.size, 0, none⟩ = some (.int .i64 n) := A3.out.1 0 _ rfl
    have x1 : w3.cell? ⟨w.heap.size, 1, none⟩ = some (.slice ad l.length cap) := A3.out.1 1 _ rfl
    clear hb3 A1
    go_wp2_with fail
    refine (specEdges n _ l _ (HI.out.on F3.out)).mono ?_
    rintro e w5 ⟨vl, rfl, ho, hb⟩
    rw [← HLL.out] at ho
    have F5 := Lib.hid (F3.out.trans (hb.mono F3.out.size))
    have O5 := Lib.hid ho
    obtain ⟨al, capl, rfl, hcl⟩ : ∃ a c, vl = .slice a LL.length c ∧ c ≤ maxLen := by
      obtain ⟨vs, hh⟩ := ho
      rcases hh.form with ⟨rfl, hn⟩ | ⟨g, c, rfl, -, -, hm, -⟩
      · exact ⟨none, 0, by rw [hn]; rfl, by unfold maxLen; omega⟩
      · exact ⟨_, c, rfl, hm⟩
    unfold maxLen at hcl
    clear ho hb x0 x1 A3
    go_wp2
    go_loopw [3, 5] (fun s c wr => ∃ (k : Nat) (S : ByteArray), k ≤ LL.length ∧ c = .int .i64 k ∧ s = .string S ∧ Hid (S = { data := (Lib.itoa n ++ [58] ++ segG LL k).toArray }) ∧ Hid (Below w.heap.size w wr) ∧ Hid (OwnII w3.heap.size w5.heap.size wr (.slice al LL.length capl) LL)) (fun _ c _ => LL.length - (intOf c).toNat)
    case atStart => exact ⟨0, _, by omega, rfl, rfl, HS0.out, F5.out, O5.out⟩
    case round =>
      clear F5 O5
      obtain ⟨k, S, hk, rfl, rfl, HS, HF, HO⟩ := hrel
      by_cases hlt : k < LL.length
      · obtain ⟨g2, cap2, b2, c2, hv, -, hc2, hc2m, hg2, hb2, e0, e1, e2⟩ := edge_cells HO.out HTWO.out hlt
        simp only [Value.slice.injEq] at hv
        obtain ⟨rfl, -, rfl⟩ := hv
        obtain ⟨z, hz⟩ : ∃ z, z = nth (subL LL k) 0 := ⟨_, rfl⟩
        obtain ⟨y, hy⟩ : ∃ z, z = nth (subL LL k) 1 := ⟨_, rfl⟩
        rw [← hz] at e1
        rw [← hy] at e2
        have hin := (HTWO.out k hlt).2
        have hzi := nth_in hin 0
        have hyi := nth_in hin 1
        rw [← hz] at hzi
        rw [← hy] at hyi
        have hl9 := segG_len LL HTWO.out k hk
        have hz21 := Lib.itoa_length_le z hzi.1 hzi.2
        have hy21 := Lib.itoa_length_le y hyi.1 hyi.2
        obtain ⟨Z, hZ⟩ : ∃ Z : ByteArray, Z = { data := (Lib.itoa z).toArray } := ⟨_, rfl⟩
        obtain ⟨Y, hY⟩ : ∃ Z : ByteArray, Z = { data := (Lib.itoa y).toArray } := ⟨_, rfl⟩
        have HSTR := Lib.hid (show ((S ++ ({ data := #[32] } : ByteArray)) ++ Z) ++ Y = { data := (Lib.itoa n ++ [58] ++ segG LL (k + 1)).toArray } by
          rw [hZ, hY, HS.out, app_one, str_app, str_app, segG_succ, hz, hy]
          congr 2
          simp [List.append_assoc])
        have k0 : ∀ X : Since wr, X.val.cell? ⟨g2, k, none⟩ = some (.slice (some ⟨b2, 0, none⟩) 2 c2) := fun X => (X.prop.cell (p := ⟨g2, k, none⟩) hg2).trans e0
        have k1 : ∀ X : Since wr, X.val.cell? ⟨b2, 0, none⟩ = some (.int .i64 z) := fun X => (X.prop.cell (p := ⟨b2, 0, none⟩) hb2).trans e1
        have k2 : ∀ X : Since wr, X.val.cell? ⟨b2, 1, none⟩ = some (.int .i64 y) := fun X => (X.prop.cell (p := ⟨b2, 1, none⟩) hb2).trans e2
        have HC1 : Hid (∀ X : Since wr, Calls Tryd.prog 37 #[.int .i64 z] X.val fun e w' => e = .returned (.string Z) ∧ Below X.val.heap.size X.val w') := fun X => by
          rw [hZ]; exact specFI z _ hzi.1 hzi.2
        have HC2 : Hid (∀ X : Since wr, Calls Tryd.prog 37 #[.int .i64 y] X.val fun e w' => e = .returned (.string Y) ∧ Below X.val.heap.size X.val w') := fun X => by
          rw [hY]; exact specFI y _ hyi.1 hyi.2
        have hZs : Z.size ≤ 21 := by rw [hZ]; show (Lib.itoa z).toArray.size ≤ 21; simpa using hz21
        have hYs : Y.size ≤ 21 := by rw [hY]; show (Lib.itoa y).toArray.size ≤ 21; simpa using hy21
        have hSs : S.size ≤ 4000 := by rw [HS.out]; show (Lib.itoa n ++ [58] ++ segG LL k).toArray.size ≤ 4000; simp; omega
        clear hz hy hZ hY e0 e1 e2
        go_wp2
        refine wp_region_since (by kernel_rfl) (by kernel_rfl) ?_
        repeat (go_big_quiet_step (first | with_reducible exact since_call (HC1.out _) | with_reducible exact since_call (HC2.out _)))
        refine wpQuiet_nil ?_
        intro X
        have HXO := Lib.hid (HO.out.keepB X.prop)
        have HXF := Lib.hid (HF.out.trans (X.prop.mono HF.out.size))
        clear k0 k1 k2
        go_wp2
        go_roundw
        case rel => exact ⟨k + 1, _, by omega, by go_num, rfl, HSTR.out, HXF.out, HXO.out⟩
        case measure => simp [intOf]; omega
      · obtain rfl : k = LL.length := by omega
        have HE2 := Lib.hid (HE.out.trans HS.out.symm)
        go_wp2
        go_ret
        exact ⟨by rw [HE2.out]; rfl, HF.out⟩

end Go.Proofs.YtcpchdnhhjhpaacDoor
