/- SimplicialOf. -/
import Derived.Test.YtfeepheckeplmabT1
import Derived.Test.YtfeepheckeplmabV6
namespace Go.Proofs.Ytfeepheckeplmab
open Go.RowKit

/-- Those below k whose neighbours are a clique. -/
def simpL (n : Int) (l : List Int) (k : Nat) : List Int := ((List.range k).filter fun v => decide (CliqueS n l (nth l v))).map fun v : Nat => (v : Int)

theorem simpL_succ (n : Int) (l : List Int) (k : Nat) : simpL n l (k + 1) = simpL n l k ++ (if CliqueS n l (nth l k) then [(k : Int)] else []) := by
  unfold simpL
  rw [List.range_succ, List.filter_append, List.map_append]
  by_cases h : CliqueS n l (nth l k) <;> simp [h]

theorem simpL_length (n : Int) (l : List Int) (k : Nat) : (simpL n l k).length ≤ k := by
  unfold simpL
  have := List.length_filter_le (fun v => decide (CliqueS n l (nth l v))) (List.range k)
  simpa using this

def simpR (n : Int) (l : List Int) : List Int := if IsG n l then simpL n l l.length else []

theorem simpR_length (n : Int) (l : List Int) : (simpR n l).length ≤ 7 := by
  unfold simpR
  split
  · rename_i h
    have := simpL_length n l l.length
    have := h.2.1
    have := h.2.2.1
    omega
  · simp

theorem OwnI.lit0 (w : World) (B : Nat) (hB : B ≤ w.heap.size) : OwnI B (w.alloc (.cells #[] 3)) (.slice (some ⟨w.heap.size, 0, none⟩) 0 0) [] := by
  have := World.ownsRow_lit w #[] 0 (e := 3) (base := B) hB (by simp [maxLen]) (size := 1) rfl
  exact ⟨inI64_nil, by simpa [iv] using this⟩

set_option maxHeartbeats 2000000 in
set_option maxRecDepth 100000 in
theorem implSimpl (n : Int) (v : Value) (l : List Int) (w : World) (h : Ints w v l) :
    Calls Try.prog 18 #[.agg #[.int .i64 n, v]] w (GetsI w.heap.size w (simpR n l)) := by
  obtain ⟨a, cap, rfl, -, -⟩ := h.form
  obtain ⟨i0, hi, hi0, hi1, hi2⟩ := info_parts infoInt
  have HA := argG' (T := 27) (n := n) h
  have HI := Lib.hid h
  clear h
  go_enter Try.func18, Try.ntmps18
  go_wp2_with fail
  refine (implIsG_any n _ l _ (HI.out.alloc _)).mono ?_
  rintro e w1 ⟨r, rfl, hr, hb⟩
  have HB := Lib.hid (hb.mono (B' := w.heap.size + 1) (by simp))
  have HR := Lib.hid hr
  clear hb hr
  obtain ⟨c0, c1, cI, cB, hz⟩ := HA.out _ HB.out
  have HCB := Lib.hid cB
  clear cI cB
  cases r with
  | false =>
    have HN := Lib.hid (show simpR n l = [] by unfold simpR; rw [if_neg (fun h => absurd (HR.out.2 h) (by decide))])
    go_wp2
    go_ret
    exact ⟨_, rfl, by rw [HN.out]; exact OwnI.nil0 _ _, HCB.out⟩
  | true =>
    have HG := Lib.hid (HR.out.1 rfl)
    have HN := Lib.hid (show simpR n l = simpL n l l.length by unfold simpR; rw [if_pos HG.out])
    have hl7 : l.length ≤ 7 := by have := HG.out.2.1; have := HG.out.2.2.1; omega
    go_wp2
    clear c0 c1 hz
    go_loopw [3, 12] (fun s i wr => ∃ k : Nat, k ≤ l.length ∧ i = .int .i64 k ∧ OwnI (w.heap.size + 1) wr s (simpL n l k) ∧ Below (w.heap.size + 1) (w.alloc (.cells #[.int .i64 n, .slice a l.length cap] 27)) wr) (fun _ i _ => l.length - (intOf i).toNat)
    case atStart => exact ⟨0, by omega, rfl, OwnI.nil0 _ _, HB.out⟩
    case round =>
      obtain ⟨k, hk, rfl, ho, hbel⟩ := hrel
      obtain ⟨c0, c1, cI, cB, hz⟩ := HA.out _ hbel
      have HO := Lib.hid ho
      have HBL := Lib.hid hbel
      have HCI := Lib.hid cI
      have HCB2 := Lib.hid cB
      clear ho hbel cI cB
      by_cases hlt : k < l.length
      · obtain ⟨b, off, cap', hv, _, hmx, hb, hcell⟩ := HCI.out.pos (by omega)
        simp only [Value.slice.injEq] at hv
        obtain ⟨rfl, -, rfl⟩ := hv
        obtain ⟨z, hz'⟩ : ∃ z, z = nth l k := ⟨_, rfl⟩
        have d1 := hcell k hlt
        rw [← hz'] at d1
        have HS := Lib.hid (simpL_succ n l k)
        have HL := Lib.hid (simpL_length n l k)
        rw [← hz'] at HS
        unfold maxLen at hmx
        clear hcell hz'
        go_wp2_with fail
        refine (implClique n _ l z _ HCI.out).mono ?_
        rintro e w2 ⟨r, rfl, hr, hb'⟩
        have HO2 := Lib.hid (HO.out.on hb')
        have HB2 := Lib.hid (HBL.out.trans (hb'.mono hz))
        have HR2 := Lib.hid hr
        clear hb' hr c0 c1 hz
        obtain ⟨-, -, -, -, hz⟩ := HA.out _ HB2.out
        cases r with
        | false =>
          have HT := Lib.hid (show simpL n l (k + 1) = simpL n l k by rw [HS.out, if_neg (fun h => absurd (HR2.out.2 h) (by decide)), List.append_nil])
          go_wp2
          go_roundw
          case rel => exact ⟨k + 1, by omega, by go_num, by rw [HT.out]; exact HO2.out, HB2.out⟩
          case measure => simp [intOf]; omega
        | true =>
          have HT := Lib.hid (show simpL n l (k + 1) = simpL n l k ++ [(k : Int)] by rw [HS.out, if_pos (HR2.out.1 rfl)])
          go_wp2_with (at_builtin; refine wpList_append_int rfl (.tmp 20) (.tmp 22) 22 rfl (w.heap.size + 1) i0 Try.underlying22 hi hi0 hi1 hi2 _ _ rfl HO2.out (k : Int) (by omega) (by omega) rfl (by have := HL.out; omega) hz ?_)
          intro v' w4 ho4 hg4 hv4
          have HO4 := Lib.hid ho4
          have HB4 := Lib.hid ((HB2.out.alloc hz (.cells #[.int .i64 (k : Int)] 3)).grown hg4 (by simp; omega) (fun k hk => (HO2.out.lt k hk).1))
          clear ho4 hg4
          go_wp2
          go_roundw
          case rel => exact ⟨k + 1, by omega, by go_num, by rw [HT.out]; exact HO4.out, HB4.out⟩
          case measure => simp [intOf]; omega
      · obtain rfl : k = l.length := by omega
        go_wp2
        go_ret
        exact ⟨_, rfl, by rw [HN.out]; exact HO.out.mono (by omega), HCB2.out⟩

theorem and_full {n : Int} {l : List Int} (hg : IsG n l) {v : Nat} (hv : v < l.length) : bits .and .i64 (nth l v) (2 ^ n.toNat - 1) = nth l v ∧ 0 ≤ nth l v ∧ nth l v ≤ 127 := by
  have hl7 : l.length ≤ 7 := by have := hg.2.1; have := hg.2.2.1; omega
  have hn : n.toNat = l.length := by have := hg.2.2.1; omega
  obtain ⟨h1, h2⟩ := hg.row_lt v hv
  have h3 := two_le _ hl7
  have h4 : 0 < 2 ^ l.length := Nat.pow_pos (by decide)
  have h5 : ((2 ^ l.length : Nat) : Int) = (2 : Int) ^ l.length := by push_cast; rfl
  have h6 := (bits_nat (rowN l v) (2 ^ l.length - 1) (by omega) (by omega)).1
  rw [sub_and (sub_full _ hl7 _ h1)] at h6
  have h7 : ((2 ^ l.length - 1 : Nat) : Int) = (2 : Int) ^ l.length - 1 := by omega
  rw [hn, h2]
  rw [h7] at h6
  exact ⟨h6, by omega, by omega⟩

set_option maxHeartbeats 2000000 in
set_option maxRecDepth 100000 in
theorem l6Simp_is (n : Int) (v : Value) (l : List Int) (k : Nat) (w : World) (h : Ints w v l) (hg : IsG n l) (hk : k < l.length) :
    Calls Try.prog 49 #[.agg #[.int .i64 n, v], .int .i64 k, .int .i64 (2 ^ n.toNat - 1)] w (SaysB (CliqueS n l (nth l k)) w) := by
  obtain ⟨b, off, cap, rfl, _, hmx, hb, hcell⟩ := h.pos (by omega)
  have HA := argG' (T := 27) (n := n) h
  obtain ⟨e1, z0, z1⟩ := and_full hg hk
  obtain ⟨z, hz⟩ : ∃ z, z = nth l k := ⟨_, rfl⟩
  obtain ⟨M, hM⟩ : ∃ M : Int, M = 2 ^ n.toNat - 1 := ⟨_, rfl⟩
  have d1 := hcell k hk
  rw [← hz] at d1 e1 z0 z1 ⊢
  rw [← hM] at e1 ⊢
  obtain ⟨w1, hw1⟩ : ∃ w1, w1 = w.alloc (.cells #[.int .i64 n, .slice (some ⟨b, off, none⟩) l.length cap] 27) := ⟨_, rfl⟩
  have HX : Hid (∀ X : Since w1, ArgG 27 w n (.slice (some ⟨b, off, none⟩) l.length cap) l X.val) := fun X => HA.out _ (since_below hw1 (by simp) X)
  have hx0 : ∀ X : Since w1, X.val.cell? ⟨w.heap.size, 0, none⟩ = some (.int .i64 n) := fun X => (HX.out X).1
  have hx1 : ∀ X : Since w1, X.val.cell? ⟨w.heap.size, 1, none⟩ = some (.slice (some ⟨b, off, none⟩) l.length cap) := fun X => (HX.out X).2.1
  have hx2 : ∀ X : Since w1, X.val.cell? ⟨b, off + k, none⟩ = some (.int .i64 z) := fun X => ((HX.out X).2.2.2.1.cell (p := ⟨b, off + k, none⟩) hb).trans d1
  unfold maxLen at hmx
  clear h hcell d1 hz hM hg
  go_enter Try.func49, Try.ntmps49
  go_wp2
  rw [← hw1]
  clear hw1
  refine wp_region_since (by kernel_rfl) (by kernel_rfl) ?_
  by_cases hq : CliqueS n l z
  · have HC1 : Hid (∀ X : Since w1, Calls Try.prog 66 #[.agg #[.int .i64 n, .slice (some ⟨b, off, none⟩) l.length cap], .int .i64 z] X.val fun e w' => e = .returned (.bool true) ∧ Below X.val.heap.size X.val w') := fun X => (specClique n _ l z _ (HX.out X).2.2.1).mono fun _ _ h => h.is_yes hq
    have HQ := Lib.hid hq
    clear hq
    repeat (go_big_quiet_step (exact since_call (HC1.out _)))
    refine wpQuiet_nil ?_
    intro X
    have HW := Lib.hid (HX.out X).2.2.2.1
    clear hx0 hx1 hx2 e1
    go_wp2
    go_ret
    exact SaysB.yes HQ.out HW.out
  · have HC1 : Hid (∀ X : Since w1, Calls Try.prog 66 #[.agg #[.int .i64 n, .slice (some ⟨b, off, none⟩) l.length cap], .int .i64 z] X.val fun e w' => e = .returned (.bool false) ∧ Below X.val.heap.size X.val w') := fun X => (specClique n _ l z _ (HX.out X).2.2.1).mono fun _ _ h => h.is_no hq
    have HQ := Lib.hid hq
    clear hq
    repeat (go_big_quiet_step (exact since_call (HC1.out _)))
    refine wpQuiet_nil ?_
    intro X
    have HW := Lib.hid (HX.out X).2.2.2.1
    clear hx0 hx1 hx2 e1
    go_wp2
    go_ret
    exact SaysB.no HQ.out HW.out

set_option maxHeartbeats 2000000 in
set_option maxRecDepth 100000 in
theorem specSimpl_no (n : Int) (v : Value) (l : List Int) (w : World) (h : Ints w v l) (hno : ¬ IsG n l) :
    Calls Try.prog 16 #[.agg #[.int .i64 n, v]] w (GetsI w.heap.size w []) := by
  obtain ⟨a, cap, rfl, -, -⟩ := h.form
  have HA := argG' (T := 27) (n := n) h
  have HNO := Lib.hid hno
  clear h hno
  go_enter Try.func16, Try.ntmps16
  go_wp2
  go_loopw [3, 4] (fun s i wr => i = .int .i64 0 ∧ s = .slice (some ⟨w.heap.size + 1, 0, none⟩) 0 0 ∧ OwnI (w.heap.size + 1) wr (.slice (some ⟨w.heap.size + 1, 0, none⟩) 0 0) [] ∧ Below (w.heap.size + 1) (w.alloc (.cells #[.int .i64 n, .slice a l.length cap] 27)) wr) (fun _ _ _ => 0)
  case atStart =>
    refine ⟨rfl, by simp, ?_, (Below.refl _ _).alloc (by simp) _⟩
    have := OwnI.lit0 (w.alloc (.cells #[.int .i64 n, .slice a l.length cap] 27)) (w.heap.size + 1) (by simp)
    simpa using this
  case round =>
    obtain ⟨rfl, rfl, ho, hbel⟩ := hrel
    obtain ⟨c0, c1, cI, cB, hz⟩ := HA.out _ hbel
    have HO := Lib.hid ho
    have HCI := Lib.hid cI
    have HCB := Lib.hid cB
    clear ho hbel cI cB
    by_cases h0 : 0 < n
    · have d1 : decide (0 < n) = true := by simp [h0]
      go_wp2_with fail
      refine (specIsG_any n _ l _ HCI.out).mono ?_
      rintro e w1 ⟨r, rfl, hr, hb⟩
      obtain rfl : r = false := by
        cases r with
        | false => rfl
        | true => exact absurd (hr.1 rfl) HNO.out
      have HO2 := Lib.hid (HO.out.on hb)
      have HCB2 := Lib.hid (HCB.out.trans (hb.mono HCB.out.size))
      clear hb hr
      go_wp2
      go_ret
      exact ⟨_, rfl, HO2.out.mono (by omega), HCB2.out⟩
    · have d1 : decide (0 < n) = false := by simp; omega
      go_wp2
      go_ret
      exact ⟨_, rfl, HO.out.mono (by omega), HCB.out⟩

set_option maxHeartbeats 4000000 in
set_option maxRecDepth 100000 in
theorem specSimpl_yes (n : Int) (v : Value) (l : List Int) (w : World) (h : Ints w v l) (hg : IsG n l) :
    Calls Try.prog 16 #[.agg #[.int .i64 n, v]] w (GetsI w.heap.size w (simpR n l)) := by
  obtain ⟨a, cap, rfl, -, -⟩ := h.form
  obtain ⟨i0, hi, hi0, hi1, hi2⟩ := info_parts infoInt
  have HA := argG' (T := 27) (n := n) h
  have HG := Lib.hid hg
  have HN := Lib.hid (show simpR n l = simpL n l l.length by unfold simpR; rw [if_pos hg])
  have hn1 := hg.1
  have hn7 := hg.2.1
  have hnl : (l.length : Int) ≤ n := by have := hg.2.2.1; omega
  have hnl' : n ≤ (l.length : Int) := by have := hg.2.2.1; omega
  have hl7 : l.length ≤ 7 := by omega
  obtain ⟨N, eN, hN1, hN2⟩ : ∃ N, (2 : Int) ^ n.toNat = N ∧ 1 ≤ N ∧ N ≤ 128 := ⟨_, rfl, by obtain ⟨-, -, -, s4, s5⟩ := shl_one n (by omega) hn7; omega, by obtain ⟨-, -, -, s4, s5⟩ := shl_one n (by omega) hn7; omega⟩
  have q6 : IntKind.i64.wrap (1 * N) = N := IntWalk.i64_in _ (by omega) |>.trans (by omega)
  have q7 : IntKind.i64.wrap (N - 1) = N - 1 := IntWalk.i64_in _ (by omega)
  have HEN := Lib.hid eN
  have HQ6 := Lib.hid q6
  have HQ7 := Lib.hid q7
  clear h hg eN q6 q7
  go_enter Try.func16, Try.ntmps16
  go_wp2
  go_loopw [3, 4] (fun s i wr => ∃ k : Nat, k ≤ l.length ∧ i = .int .i64 k ∧ OwnI (w.heap.size + 1) wr s (simpL n l k) ∧ Below (w.heap.size + 1) (w.alloc (.cells #[.int .i64 n, .slice a l.length cap] 27)) wr) (fun _ i _ => l.length - (intOf i).toNat)
  case atStart =>
    refine ⟨0, by omega, rfl, ?_, (Below.refl _ _).alloc (by simp) _⟩
    have := OwnI.lit0 (w.alloc (.cells #[.int .i64 n, .slice a l.length cap] 27)) (w.heap.size + 1) (by simp)
    simpa [simpL] using this
  case round =>
    obtain ⟨k, hk, rfl, ho, hbel⟩ := hrel
    obtain ⟨c0, c1, cI, cB, hz⟩ := HA.out _ hbel
    have HO := Lib.hid ho
    have HBL := Lib.hid hbel
    have HCI := Lib.hid cI
    have HCB := Lib.hid cB
    clear ho hbel cI cB
    by_cases hlt : k < l.length
    · have hkn : (k : Int) < n := by omega
      have HS := Lib.hid (simpL_succ n l k)
      have HL := Lib.hid (simpL_length n l k)
      go_wp2_with fail
      refine (specIsG_any n _ l _ HCI.out).mono ?_
      rintro e wa ⟨r, rfl, hr, hb⟩
      obtain rfl : r = true := hr.2 HG.out
      have HO2 := Lib.hid (HO.out.on hb)
      have HB2 := Lib.hid (HBL.out.trans (hb.mono hz))
      clear hb hr c0 c1 hz
      obtain ⟨-, -, -, -, hz⟩ := HA.out _ HB2.out
      have HX : Hid (∀ X : Since wa, ArgG 27 w n (.slice a l.length cap) l X.val) := fun X => HA.out _ (HB2.out.trans (X.prop.mono hz))
      have hx0 : ∀ X : Since wa, X.val.cell? ⟨w.heap.size, 0, none⟩ = some (.int .i64 n) := fun X => (HX.out X).1
      have hx1 : ∀ X : Since wa, X.val.cell? ⟨w.heap.size, 1, none⟩ = some (.slice a l.length cap) := fun X => (HX.out X).2.1
      have q5 := HEN.out
      have q6 := HQ6.out
      have q7 := HQ7.out
      go_wp2
      refine wp_region_since (by kernel_rfl) (by kernel_rfl) ?_
      by_cases hq : CliqueS n l (nth l k)
      · have HC1 : Hid (∀ X : Since wa, Calls Try.prog 49 #[.agg #[.int .i64 n, .slice a l.length cap], .int .i64 k, .int .i64 (N - 1)] X.val fun e w' => e = .returned (.bool true) ∧ Below X.val.heap.size X.val w') := fun X => by
          have := (l6Simp_is n _ l k _ (HX.out X).2.2.1 HG.out hlt).mono fun _ _ h => h.is_yes hq
          rw [HEN.out] at this
          exact this
        have HT := Lib.hid (show simpL n l (k + 1) = simpL n l k ++ [(k : Int)] by rw [HS.out, if_pos hq])
        clear hq
        repeat (go_big_quiet_step (exact since_call (HC1.out _)))
        refine wpQuiet_nil ?_
        intro X
        have HO3 := Lib.hid (HO2.out.on X.prop)
        have HB3 := Lib.hid (HB2.out.trans (X.prop.mono hz))
        have hz3 : w.heap.size + 1 ≤ X.val.heap.size := by have := X.prop.size; omega
        clear hx0 hx1 q5 q6 q7
        go_wp2_with (at_builtin; refine wpList_append_int rfl (.tmp 23) (.tmp 25) 22 rfl (w.heap.size + 1) i0 Try.underlying22 hi hi0 hi1 hi2 _ _ rfl HO3.out (k : Int) (by omega) (by omega) rfl (by have := HL.out; omega) hz3 ?_)
        intro v' w4 ho4 hg4 hv4
        have HO4 := Lib.hid ho4
        have HB4 := Lib.hid ((HB3.out.alloc hz3 (.cells #[.int .i64 (k : Int)] 3)).grown hg4 (by simp; omega) (fun k hk => (HO3.out.lt k hk).1))
        clear ho4 hg4
        go_wp2
        go_roundw
        case rel => exact ⟨k + 1, by omega, by go_num, by rw [HT.out]; exact HO4.out, HB4.out⟩
        case measure => simp [intOf]; omega
      · have HC1 : Hid (∀ X : Since wa, Calls Try.prog 49 #[.agg #[.int .i64 n, .slice a l.length cap], .int .i64 k, .int .i64 (N - 1)] X.val fun e w' => e = .returned (.bool false) ∧ Below X.val.heap.size X.val w') := fun X => by
          have := (l6Simp_is n _ l k _ (HX.out X).2.2.1 HG.out hlt).mono fun _ _ h => h.is_no hq
          rw [HEN.out] at this
          exact this
        have HT := Lib.hid (show simpL n l (k + 1) = simpL n l k by rw [HS.out, if_neg hq, List.append_nil])
        clear hq
        repeat (go_big_quiet_step (exact since_call (HC1.out _)))
        refine wpQuiet_nil ?_
        intro X
        have HO3 := Lib.hid (HO2.out.on X.prop)
        have HB3 := Lib.hid (HB2.out.trans (X.prop.mono hz))
        clear hx0 hx1 q5 q6 q7
        go_wp2
        go_roundw
        case rel => exact ⟨k + 1, by omega, by go_num, by rw [HT.out]; exact HO3.out, HB3.out⟩
        case measure => simp [intOf]; omega
    · obtain rfl : k = l.length := by omega
      have d1 : decide ((l.length : Int) < n) = false := by simp; omega
      go_wp2
      go_ret
      exact ⟨_, rfl, by rw [HN.out]; exact HO.out.mono (by omega), HCB.out⟩

theorem specSimpl (n : Int) (v : Value) (l : List Int) (w : World) (h : Ints w v l) :
    Calls Try.prog 16 #[.agg #[.int .i64 n, v]] w (GetsI w.heap.size w (simpR n l)) := by
  by_cases hg : IsG n l
  · exact specSimpl_yes n v l w h hg
  · rw [show simpR n l = [] by unfold simpR; rw [if_neg hg]]
    exact specSimpl_no n v l w h hg

end Go.Proofs.Ytfeepheckeplmab
