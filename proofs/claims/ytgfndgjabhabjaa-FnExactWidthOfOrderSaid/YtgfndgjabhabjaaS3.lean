/- Walks over EdgesOf: the two functions. -/
import Derived.Test.YtgfndgjabhabjaaS2
namespace Go.Proofs.Ytgfndgjabhabjaa
set_option linter.unusedVariables false
set_option linter.unusedSimpArgs false
open Go.RowKit

theorem cell_pair (W : World) (a b : Int) : ∀ j u, [Value.slice (some ⟨W.heap.size, 0, none⟩) 2 2][j]? = some u → ((W.alloc (.cells #[.int .i64 a, .int .i64 b] 3)).alloc (.cells #[.slice (some ⟨W.heap.size, 0, none⟩) 2 2] 22)).cell? ((⟨W.heap.size + 1, 0, none⟩ : Addr).add j) = some u := fun j u hu => by
  match j, hu with
  | 0, hu => simp at hu; subst hu; simp [Addr.add, go_sem]

set_option maxHeartbeats 2000000 in
set_option maxRecDepth 100000 in
theorem implEdges (n : Int) (v : Value) (l : List Int) (w : World) (h : Ints w v l) :
    Calls Try.prog 82 #[.agg #[.int .i64 n, v]] w (GetsII w (edgesR n l)) := by
  obtain ⟨a, cap, rfl, -, -⟩ := h.form
  obtain ⟨i1, hj, hj0, hj1, hj2⟩ := info_parts infoInts
  have HA := argG' (T := 44) (n := n) h
  have HI := Lib.hid h
  clear h
  go_enter Try.func82, Try.ntmps82
  go_wp2_with fail
  refine (implIsG_any n _ l _ (HI.out.alloc _)).mono ?_
  rintro e w1 ⟨r, rfl, hr, hb⟩
  have HB := Lib.hid (hb.mono (B' := w.heap.size + 1) (by simp))
  clear hb
  obtain ⟨c0, c1, -, -, hz⟩ := HA.out _ HB.out
  cases r with
  | false =>
    have HN := Lib.hid (show edgesR n l = [] by unfold edgesR; rw [if_neg (by simpa using hr)])
    clear hr
    go_wp2
    go_ret
    exact ⟨_, rfl, by rw [HN.out]; exact ⟨[], OwnV.nil _ _ _⟩, (HA.out _ HB.out).2.2.2.1⟩
  | true =>
    have hg := hr.1 rfl
    have HN := Lib.hid (show edgesR n l = allE l l.length l.length by unfold edgesR; rw [if_pos hg])
    have hnl := hg.2.2.1
    have hn7 := hg.2.1
    have hl7 : l.length ≤ 7 := by omega
    clear hr hg
    go_wp2
    clear c0 c1 hz
    go_loopw [3, 11] (fun s i wr => ∃ (k : Nat) (ll : List (List Int)), k ≤ l.length ∧ i = .int .i64 k ∧ ll.length ≤ 7 * k ∧ Hid (ll = allE l l.length k) ∧ OwnII (w.heap.size + 1) wr.heap.size wr s ll ∧ Below (w.heap.size + 1) (w.alloc (.cells #[.int .i64 n, .slice a l.length cap] 44)) wr) (fun _ i _ => l.length - (intOf i).toNat)
    case atStart => exact ⟨0, [], by omega, rfl, by simp, rfl, ⟨[], OwnV.nil _ _ _⟩, HB.out⟩
    case round =>
      obtain ⟨k, ll, hk, rfl, hlen, HL, hown, hbel⟩ := hrel
      by_cases hlt : k < l.length
      · have hkn : (k : Int) < n := by omega
        have HO := Lib.hid hown
        have HBL := Lib.hid hbel
        clear hown hbel
        go_wp2
        go_loopw [3, 5] (fun s j wr => ∃ (m : Nat) (ll : List (List Int)), k < m ∧ m ≤ l.length ∧ j = .int .i64 m ∧ ll.length ≤ 7 * k + m ∧ Hid (ll = allE l l.length k ++ rowE l k m) ∧ OwnII (w.heap.size + 1) wr.heap.size wr s ll ∧ Below (w.heap.size + 1) (w.alloc (.cells #[.int .i64 n, .slice a l.length cap] 44)) wr) (fun _ j _ => l.length - (intOf j).toNat)
        case atStart => exact ⟨k + 1, ll, by omega, by omega, by go_num, by omega, by rw [rowE_none, List.append_nil]; exact HL.out, HO.out, HBL.out⟩
        case round =>
          clear HO HBL HL hlen
          obtain ⟨m, ll, hkm, hm, rfl, hlen, HL, hown, hbel⟩ := hrel
          obtain ⟨c0, c1, cI, cB, hz⟩ := HA.out _ hbel
          by_cases hlt2 : m < l.length
          · have hmn : (m : Int) < n := by omega
            have HO := Lib.hid hown
            have HBL := Lib.hid hbel
            have HCI := Lib.hid cI
            clear hown hbel cI cB
            go_wp2_with fail
            refine (areJoined_is n _ l k m _ HCI.out hlt (by omega)).mono ?_
            rintro e w4 ⟨rfl, hb⟩
            have HO4 := Lib.hid ((HO.out.keepB hb).mono (Nat.le_refl _) hb.size)
            have HB4 := Lib.hid (HBL.out.trans (hb.mono hz))
            clear hb c0 c1 hz
            obtain ⟨-, -, -, -, hz⟩ := HA.out _ HB4.out
            cases he : edB l k m with
            | false =>
              have HY := Lib.hid (rowE_no l k m he)
              clear he
              go_wp2
              go_roundw
              case rel => exact ⟨m + 1, ll, by omega, by omega, by go_num, by omega, by rw [HY.out]; exact HL.out, HO4.out, HB4.out⟩
              case measure => simp [intOf]; omega
            | true =>
              have HY := Lib.hid (rowE_yes l k m hkm he)
              clear he
              obtain ⟨vs, hV⟩ := HO4.out
              have HV := Lib.hid hV
              have hB1 : w.heap.size + 1 ≤ w4.heap.size := hz
              clear hV
              go_wp2_with (at_builtin; refine wpList_append_own _ rfl (.tmp 26) (.tmp 30) 41 rfl (w.heap.size + 1) 22 i1 (.slice none 0 0) 1 24 Try.underlying41 hj hj0 hj1 hj2 rfl (by decide) _ ll.length vs rfl ((HV.out.2.1.alloc _).alloc _) ⟨w4.heap.size + 1, 0, none⟩ 1 1 [.slice (some ⟨w4.heap.size, 0, none⟩) 2 2] rfl rfl (cell_pair w4 k m) (fun u hu => by simp at hu; subst hu; rfl) (by unfold maxLen; omega) (by omega) (by simp; omega) ?_)
              intro v' w5 ho5 hg5 hn5
              have HO5 := Lib.hid (HV.out.snoc hB1 (k : Int) (m : Int) (by omega) (by omega) ho5 hg5)
              have HB5 := Lib.hid (((HB4.out.alloc hz (.cells #[.int .i64 (k : Int), .int .i64 (m : Int)] 3)).alloc (by simp; omega) (.cells #[.slice (some ⟨w4.heap.size, 0, none⟩) 2 2] 22)).grown hg5 (by simp; omega) (fun k hk => (HV.out.2.1.lt k hk).1))
              clear ho5 hg5 hn5
              go_wp2
              go_roundw
              case rel => exact ⟨m + 1, ll ++ [[(k : Int), (m : Int)]], by omega, by omega, by go_num, by rw [List.length_append]; simp; omega, by rw [HY.out, HL.out, List.append_assoc]; rfl, HO5.out, HB5.out⟩
              case measure => simp [intOf]; omega
          · obtain rfl : m = l.length := by omega
            have HO := Lib.hid hown
            have HBL := Lib.hid hbel
            clear hown hbel cI cB
            go_wp2
            go_roundw
            case rel => exact ⟨k + 1, ll, by omega, by go_num, by omega, by rw [allE_succ]; exact HL.out, HO.out, HBL.out⟩
            case measure => simp [intOf]; omega
      · obtain rfl : k = l.length := by omega
        have HO := Lib.hid hown
        have HC := Lib.hid (HA.out _ hbel).2.2.2.1
        clear hown hbel
        go_wp2
        go_ret
        exact ⟨_, rfl, by rw [HN.out, ← HL.out]; exact HO.out.mono (by omega) (Nat.le_refl _), HC.out⟩

set_option maxHeartbeats 2000000 in
set_option maxRecDepth 100000 in
theorem specEdges_no (n : Int) (v : Value) (l : List Int) (w : World) (h : Ints w v l) (hno : ¬ IsG n l) :
    Calls Try.prog 76 #[.agg #[.int .i64 n, v]] w (GetsII w []) := by
  obtain ⟨a, cap, rfl, -, -⟩ := h.form
  have HA := argG' (T := 44) (n := n) h
  have HNO := Lib.hid hno
  clear h hno
  go_enter Try.func76, Try.ntmps76
  go_wp2
  go_loopw [3, 4] (fun s i wr => i = .int .i64 0 ∧ s = .slice (some ⟨w.heap.size + 1, 0, none⟩) 0 0 ∧ OwnII (w.heap.size + 1) wr.heap.size wr (.slice (some ⟨w.heap.size + 1, 0, none⟩) 0 0) [] ∧ Below (w.heap.size + 1) (w.alloc (.cells #[.int .i64 n, .slice a l.length cap] 44)) wr) (fun _ _ _ => 0)
  case atStart =>
    refine ⟨rfl, by simp, ⟨[], rfl, ?_, fun i h => by simp at h, fun i k h => by simp at h, fun k hk => ?_, fun i j k h => by simp at h⟩, (Below.refl _ _).alloc (by simp) _⟩
    · have := World.ownsRow_lit (w.alloc (.cells #[.int .i64 n, .slice a l.length cap] 44)) #[] 0 (e := 22) (base := w.heap.size + 1) (by simp) (by simp [maxLen]) (size := 1) rfl
      simpa using this
    · have : k = w.heap.size + 1 := by simpa [Value.ownBlock] using hk.symm
      simp; omega
  case round =>
    obtain ⟨rfl, rfl, ho, hbel⟩ := hrel
    obtain ⟨c0, c1, cI, cB, hz⟩ := HA.out _ hbel
    have HO := Lib.hid ho
    have HCI := Lib.hid cI
    have HCB := Lib.hid cB
    clear ho hbel cI cB
    by_cases h0 : 0 < n
    · have d1 : decide (0 < n) = true := by simp [h0]
      go_wp2_with fail
      refine (specIsG_any n _ l _ HCI.out).mono ?_
      rintro e w1 ⟨r, rfl, hr, hb⟩
      obtain rfl : r = false := by
        cases r with
        | false => rfl
        | true => exact absurd (hr.1 rfl) HNO.out
      have HO2 := Lib.hid ((HO.out.keepB hb).mono (lo' := w.heap.size) (by omega) hb.size)
      have HCB2 := Lib.hid (HCB.out.trans (hb.mono HCB.out.size))
      clear hb hr
      go_wp2
      go_ret
      exact ⟨_, rfl, HO2.out, HCB2.out⟩
    · have d1 : decide (0 < n) = false := by simp; omega
      go_wp2
      go_ret
      exact ⟨_, rfl, HO.out.mono (by omega) (Nat.le_refl _), HCB.out⟩

set_option maxHeartbeats 2000000 in
set_option maxRecDepth 100000 in
theorem specEdges_yes (n : Int) (v : Value) (l : List Int) (w : World) (h : Ints w v l) (hg : IsG n l) :
    Calls Try.prog 76 #[.agg #[.int .i64 n, v]] w (GetsII w (edgesR n l)) := by
  obtain ⟨a, cap, rfl, -, -⟩ := h.form
  obtain ⟨i1, hj, hj0, hj1, hj2⟩ := info_parts infoInts
  have HA := argG' (T := 44) (n := n) h
  have HI := Lib.hid h
  clear h
  have HG := Lib.hid hg
  have HN := Lib.hid (show edgesR n l = allE l l.length l.length by unfold edgesR; rw [if_pos hg])
  have hnl := hg.2.2.1
  have hn7 := hg.2.1
  have hl7 : l.length ≤ 7 := by omega
  clear hg
  go_enter Try.func76, Try.ntmps76
  go_wp2
  go_loopw [3, 4] (fun s i wr => ∃ (k : Nat) (ll : List (List Int)), k ≤ l.length ∧ i = .int .i64 k ∧ ll.length ≤ 7 * k ∧ Hid (ll = allE l l.length k) ∧ OwnII (w.heap.size + 1) wr.heap.size wr s ll ∧ Below (w.heap.size + 1) (w.alloc (.cells #[.int .i64 n, .slice a l.length cap] 44)) wr) (fun _ i _ => l.length - (intOf i).toNat)
  case atStart =>
    refine ⟨0, [], by omega, rfl, by simp, rfl, ⟨[], rfl, ?_, fun i h => by simp at h, fun i k h => by simp at h, fun k hk => ?_, fun i j k h => by simp at h⟩, (Below.refl _ _).alloc (by simp) _⟩
    · have := World.ownsRow_lit (w.alloc (.cells #[.int .i64 n, .slice a l.length cap] 44)) #[] 0 (e := 22) (base := w.heap.size + 1) (by simp) (by simp [maxLen]) (size := 1) rfl
      simpa using this
    · have : k = w.heap.size + 1 := by simpa [Value.ownBlock] using hk.symm
      simp; omega
  case round =>
    obtain ⟨k, ll, hk, rfl, hlen, HL, hown, hbel⟩ := hrel
    by_cases hlt : k < l.length
    · have hkn : (k : Int) < n := by omega
      obtain ⟨c0, c1, cI, -, hz⟩ := HA.out _ hbel
      have HOa := Lib.hid hown
      have HBa := Lib.hid hbel
      have HCa := Lib.hid cI
      clear hown hbel cI
      go_wp2_with fail
      refine (specIsG_any n _ l _ HCa.out).mono ?_
      rintro e wa ⟨r, rfl, hr, hb⟩
      obtain rfl : r = true := hr.2 HG.out
      have HO := Lib.hid ((HOa.out.keepB hb).mono (Nat.le_refl _) hb.size)
      have HBL := Lib.hid (HBa.out.trans (hb.mono hz))
      clear hb hr c0 c1 hz HOa HBa HCa
      go_wp2
      go_loopw [3, 5] (fun s j wr => ∃ (m : Nat) (ll : List (List Int)), k < m ∧ m ≤ l.length ∧ j = .int .i64 m ∧ ll.length ≤ 7 * k + m ∧ Hid (ll = allE l l.length k ++ rowE l k m) ∧ OwnII (w.heap.size + 1) wr.heap.size wr s ll ∧ Below (w.heap.size + 1) (w.alloc (.cells #[.int .i64 n, .slice a l.length cap] 44)) wr) (fun _ j _ => l.length - (intOf j).toNat)
      case atStart => exact ⟨k + 1, ll, by omega, by omega, by go_num, by omega, by rw [rowE_none, List.append_nil]; exact HL.out, HO.out, HBL.out⟩
      case round =>
        clear HO HBL HL hlen
        obtain ⟨m, ll, hkm, hm, rfl, hlen, HL, hown, hbel⟩ := hrel
        obtain ⟨c0, c1, cI, cB, hz⟩ := HA.out _ hbel
        by_cases hlt2 : m < l.length
        · have hmn : (m : Int) < n := by omega
          have HO := Lib.hid hown
          have HBL := Lib.hid hbel
          have HCI := Lib.hid cI
          clear hown hbel cI cB
          go_wp2_with fail
          refine (l2Edge_is n _ l k m _ HCI.out hlt (by omega)).mono ?_
          rintro e w4 ⟨rfl, hb⟩
          have HO4 := Lib.hid ((HO.out.keepB hb).mono (Nat.le_refl _) hb.size)
          have HB4 := Lib.hid (HBL.out.trans (hb.mono hz))
          clear hb c0 c1 hz
          obtain ⟨-, -, -, -, hz⟩ := HA.out _ HB4.out
          cases he : edB l k m with
          | false =>
            have HY := Lib.hid (rowE_no l k m he)
            clear he
            go_wp2
            go_roundw
            case rel => exact ⟨m + 1, ll, by omega, by omega, by go_num, by omega, by rw [HY.out]; exact HL.out, HO4.out, HB4.out⟩
            case measure => simp [intOf]; omega
          | true =>
            have HY := Lib.hid (rowE_yes l k m hkm he)
            clear he
            obtain ⟨vs, hV⟩ := HO4.out
            have HV := Lib.hid hV
            have hB1 : w.heap.size + 1 ≤ w4.heap.size := hz
            clear hV
            go_wp2_with (at_builtin; refine wpList_append_own _ rfl (.tmp 29) (.tmp 33) 41 rfl (w.heap.size + 1) 22 i1 (.slice none 0 0) 1 24 Try.underlying41 hj hj0 hj1 hj2 rfl (by decide) _ ll.length vs rfl ((HV.out.2.1.alloc _).alloc _) ⟨w4.heap.size + 1, 0, none⟩ 1 1 [.slice (some ⟨w4.heap.size, 0, none⟩) 2 2] rfl rfl (cell_pair w4 k m) (fun u hu => by simp at hu; subst hu; rfl) (by unfold maxLen; omega) (by omega) (by simp; omega) ?_)
            intro v' w5 ho5 hg5 hn5
            have HO5 := Lib.hid (HV.out.snoc hB1 (k : Int) (m : Int) (by omega) (by omega) ho5 hg5)
            have HB5 := Lib.hid (((HB4.out.alloc hz (.cells #[.int .i64 (k : Int), .int .i64 (m : Int)] 3)).alloc (by simp; omega) (.cells #[.slice (some ⟨w4.heap.size, 0, none⟩) 2 2] 22)).grown hg5 (by simp; omega) (fun k hk => (HV.out.2.1.lt k hk).1))
            clear ho5 hg5 hn5
            go_wp2
            go_roundw
            case rel => exact ⟨m + 1, ll ++ [[(k : Int), (m : Int)]], by omega, by omega, by go_num, by rw [List.length_append]; simp; omega, by rw [HY.out, HL.out, List.append_assoc]; rfl, HO5.out, HB5.out⟩
            case measure => simp [intOf]; omega
        · obtain rfl : m = l.length := by omega
          have HO := Lib.hid hown
          have HBL := Lib.hid hbel
          clear hown hbel cI cB
          go_wp2
          go_roundw
          case rel => exact ⟨k + 1, ll, by omega, by go_num, by omega, by rw [allE_succ]; exact HL.out, HO.out, HBL.out⟩
          case measure => simp [intOf]; omega
    · obtain rfl : k = l.length := by omega
      have HO := Lib.hid hown
      obtain ⟨c0, c1, -, cB, -⟩ := HA.out _ hbel
      have HC := Lib.hid cB
      clear hown hbel cB
      go_wp2
      go_ret
      exact ⟨_, rfl, by rw [HN.out, ← HL.out]; exact HO.out.mono (by omega) (Nat.le_refl _), HC.out⟩

theorem specEdges (n : Int) (v : Value) (l : List Int) (w : World) (h : Ints w v l) :
    Calls Try.prog 76 #[.agg #[.int .i64 n, v]] w (GetsII w (edgesR n l)) := by
  by_cases hg : IsG n l
  · exact specEdges_yes n v l w h hg
  · rw [show edgesR n l = [] by unfold edgesR; rw [if_neg hg]]
    exact specEdges_no n v l w h hg

end Go.Proofs.Ytgfndgjabhabjaa
