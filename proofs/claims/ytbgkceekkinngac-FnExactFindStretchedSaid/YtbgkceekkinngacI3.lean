/- Walks over the specification's InducedOn. -/
import Derived.Test.YtbgkceekkinngacI2
namespace Go.Proofs.Ytbgkceekkinngac
set_option linter.unusedVariables false
set_option linter.unusedSimpArgs false
open Go.RowKit

set_option maxHeartbeats 2000000 in
set_option maxRecDepth 100000 in
theorem specInduced_no (n : Int) (v : Value) (l : List Int) (x : Int) (w : World) (h : Ints w v l) (hno : ¬ IndOk n l x) :
    Calls Try.prog 55 #[.agg #[.int .i64 n, v], .int .i64 x] w (GetsGB w.heap.size w 0 [] false) := by
  obtain ⟨a, cap, rfl, -, -⟩ := h.form
  have HN := Lib.hid hno
  have BL := Lib.hid (Blank.new (w.alloc (.cells #[.int .i64 n, .slice a l.length cap] 27)) 27)
  have II := Lib.hid ((h.alloc (.cells #[.int .i64 n, .slice a l.length cap] 27)).alloc (.cells #[.int .i64 0, .slice none 0 0] 27))
  have BB := Lib.hid (((Below.refl _ w).alloc (Nat.le_refl _) (.cells #[.int .i64 n, .slice a l.length cap] 27)).alloc (by simp) (.cells #[.int .i64 0, .slice none 0 0] 27))
  clear h hno
  go_enter Try.func55, Try.ntmps55
  go_wp2_with fail
  refine (specIsSet n _ l x _ II.out).mono ?_
  rintro e w1 ⟨r, rfl, hr, hb⟩
  have BL1 := BL.out.keep (below_grown hb) (by simp)
  have BB1 := Lib.hid (BB.out.trans (hb.mono BB.out.size))
  have HR := Lib.hid hr
  clear hb hr BL II BB
  obtain ⟨b0, b1, b2, b3, b4⟩ := BL1
  simp only [World.size_alloc] at b0 b1 b2 b3 b4
  cases r with
  | false =>
    go_wp2
    refine bodyPost_ret (v := .tuple #[.agg #[.int .i64 0, .slice none 0 0], .bool false]) (by simp [results, Try.results55, go_sem, b0, b1, b2, b3]) rfl ⟨_, rfl, ⟨inI64_nil, World.ownsRow_nil _ _ _ _⟩, ?_⟩
    exact (BB1.out.setCell (by simp) _).setCell (by simp) _
  | true =>
    obtain rfl : x = 0 := by
      by_cases h0 : x = 0
      · exact h0
      · exact absurd ⟨HR.out.1 rfl, h0⟩ HN.out
    go_wp2
    refine bodyPost_ret (v := .tuple #[.agg #[.int .i64 0, .slice none 0 0], .bool false]) (by simp [results, Try.results55, go_sem, b0, b1, b2, b3]) rfl ⟨_, rfl, ⟨inI64_nil, World.ownsRow_nil _ _ _ _⟩, ?_⟩
    exact (BB1.out.setCell (by simp) _).setCell (by simp) _

set_option maxHeartbeats 4000000 in
set_option maxRecDepth 100000 in
theorem specInduced_yes (n : Int) (v : Value) (l : List Int) (x : Int) (w : World) (h : Ints w v l) (hok : IndOk n l x) :
    Calls Try.prog 55 #[.agg #[.int .i64 n, v], .int .i64 x] w (GetsGB w.heap.size w ((memN x.toNat).length : Int) (indR l x.toNat) true) := by
  obtain ⟨a, cap, rfl, -, -⟩ := h.form
  obtain ⟨i0, hi, hi0, hi1, hi2⟩ := info_parts infoInt
  obtain ⟨hs, hx0⟩ := hok
  have HG := Lib.hid hs
  obtain ⟨X, hXx⟩ : ∃ X, X = x.toNat := ⟨_, rfl⟩
  have hxn := hs.nat
  rw [← hXx] at hxn
  rw [← hXx]
  obtain ⟨rfl, hX2, hl7⟩ := hxn
  have hX7 : X < 128 := Nat.lt_of_lt_of_le hX2 (two_le _ hl7)
  have d1 : ((X : Int) == 0) = false := by simp; omega
  have HX2 := Lib.hid hX2
  obtain ⟨m, hm⟩ : ∃ m, m = (memN X).length := ⟨_, rfl⟩
  rw [← hm]
  have hm7 : m ≤ 7 := by rw [hm]; exact mem_len_le X
  have hm1 : 1 ≤ m := by
    have := (low_facts X (by omega) hX7).2.2.1
    omega
  have HLR := Lib.hid (show (listR (X : Int)).length = m by rw [hm]; exact listR_len hX7)
  have HNT : Hid (∀ i, i < m → nth (listR (X : Int)) i = (klN X i : Int) ∧ klN X i < l.length ∧ klN X i < 7) := fun i hi => by
    rw [hm] at hi
    exact ⟨listR_nth hX7 hi, kl_lt hX2 hi, (kl_bit hi).1⟩
  have HRL := Lib.hid (show (indR l X).length = m by rw [hm]; exact indR_length l X)
  have HRN : Hid (∀ i, i < m → nth (indR l X) i = rowV (indP l X i) m) := fun i hi => by
    rw [hm] at hi ⊢
    exact adjL_nth _ _ i hi
  have BX := Lib.hid ((BoxG.new w 27 n (.slice a l.length cap) ⟨_, _, _, rfl⟩).keep (grown_alloc _ (.cells #[.int .i64 0, .slice none 0 0] 27) none) (by simp))
  have BL := Lib.hid (Blank.new (w.alloc (.cells #[.int .i64 n, .slice a l.length cap] 27)) 27)
  have II := Lib.hid ((h.alloc (.cells #[.int .i64 n, .slice a l.length cap] 27)).alloc (.cells #[.int .i64 0, .slice none 0 0] 27))
  have BB := Lib.hid (((Below.refl _ w).alloc (Nat.le_refl _) (.cells #[.int .i64 n, .slice a l.length cap] 27)).alloc (by simp) (.cells #[.int .i64 0, .slice none 0 0] 27))
  clear h hs hXx hX2 hm
  go_enter Try.func55, Try.ntmps55
  go_wp2_with fail
  refine (specIsSet n _ l X _ II.out).mono ?_
  rintro e w1 ⟨r, rfl, hr, hb⟩
  obtain rfl : r = true := hr.2 HG.out
  have BX1 := Lib.hid (BX.out.keep (below_grown hb) (by simp))
  have BL1 := Lib.hid (BL.out.keep (below_grown hb) (by simp))
  have II1 := Lib.hid (II.out.on hb)
  have BB1 := Lib.hid (BB.out.trans (hb.mono BB.out.size))
  clear hb hr BX BL II BB
  go_wp2_with fail
  refine (specListOf X _).mono ?_
  rintro e w2 ⟨vk, rfl, ho, hb⟩
  have BX2 := Lib.hid (BX1.out.keep (below_grown hb) (by simp))
  have BL2 := Lib.hid (BL1.out.keep (below_grown hb) (by simp))
  have II2 := Lib.hid (II1.out.on hb)
  have BB2 := Lib.hid (BB1.out.trans (hb.mono BB1.out.size))
  obtain ⟨bk, offk, capk, rfl, -, hmk, hbk, -⟩ := ho.ints.pos (by rw [HLR.out]; omega)
  have HK := Lib.hid ho.ints
  unfold maxLen at hmk
  clear ho hb BX1 BL1 II1 BB1
  rw [HLR.out] at HK ⊢
  have hbl : w.heap.size + 1 < w2.heap.size := by have := BL2.out.2.2.2.2; simpa using this
  have K : Hid (∀ W, Below w2.heap.size w2 W → BoxG w.heap.size n (.slice a l.length cap) W ∧ Blank (w.heap.size + 1) W ∧ Ints W (.slice a l.length cap) l ∧ Below w.heap.size w W ∧ (∀ j, j < m → W.cell? ⟨bk, offk + j, none⟩ = some (.int .i64 (klN X j)))) := fun W hb => by
    refine ⟨BX2.out.keep (below_grown hb) (by simp), by have := BL2.out.keep (below_grown hb) (by simp); simpa using this, II2.out.on hb, BB2.out.trans (hb.mono (by omega)), fun j hj => ?_⟩
    obtain ⟨b', off', cap', hv, _, _, _, hc⟩ := (HK.out.on hb).pos (by rw [HLR.out]; omega)
    simp only [Value.slice.injEq, Option.some.injEq, Addr.mk.injEq, and_true] at hv
    obtain ⟨⟨rfl, rfl⟩, -, -⟩ := hv
    rw [hc j (by rw [HLR.out]; exact hj), (HNT.out j hj).1]
  clear BX2 BL2 II2 BB2 HK
  go_wp2
  go_loopw [8] (fun i wr => ∃ (k : Nat) (u : Value), k ≤ m ∧ i = .int .i64 k ∧ OwnI (w2.heap.size + 1) wr u ((indR l X).take k) ∧ BoxG w2.heap.size m u wr ∧ wr.frozen? ⟨w2.heap.size, 1, none⟩ = false ∧ Below w2.heap.size w2 wr) (fun i _ => m - (intOf i).toNat)
  case atStart =>
    exact ⟨0, .slice none 0 0, by omega, rfl, ⟨by simpa using inI64_nil, by simpa [iv] using World.ownsRow_nil _ _ _ _⟩, BoxG.new w2 _ m _ ⟨_, _, _, rfl⟩, by simp [go_sem], (Below.refl _ _).alloc (Nat.le_refl _) _⟩
  case round =>
    obtain ⟨i, u, hk, rfl, hown, hbx, hfr, hbel⟩ := hrel
    by_cases hlt : i < m
    · have HO := Lib.hid hown
      have HX := Lib.hid hbx
      have HF := Lib.hid hfr
      have HB := Lib.hid hbel
      have hsz := hbel.size
      have hlen2 : ((indR l X).take i).length = i := by rw [List.length_take, HRL.out]; omega
      have HLN := Lib.hid hlen2
      obtain ⟨hki1, hki2, hki3⟩ := HNT.out i hlt
      clear hown hbx hfr hbel hlen2 hki1
      obtain ⟨wo, hwo⟩ : ∃ wo, wo = wr := ⟨_, rfl⟩
      rw [← hwo] at HO HX HF HB hsz
      rw [← hwo]
      clear hwo
      go_wp2
      go_loopw [9, 10] (fun r j wr => ∃ k : Nat, k ≤ m ∧ j = .int .i64 k ∧ r = .int .i64 (rowV (indP l X i) k) ∧ Below wo.heap.size wo wr) (fun _ j _ => m - (intOf j).toNat)
      case atStart => exact ⟨0, by omega, rfl, rfl, Below.refl _ _⟩
      case round =>
        obtain ⟨k, hkm, rfl, rfl, hbel⟩ := hrel
        have HBI := Lib.hid hbel
        have HB2 := Lib.hid (HB.out.trans (hbel.mono hsz))
        clear hbel
        have hrow := rowV_bd (indP l X i) k
        obtain ⟨-, -, -, s6, s7⟩ := shl_one' k (by omega)
        obtain ⟨P, eP, hP1, hP2⟩ : ∃ P, (2 : Int) ^ k = P ∧ 1 ≤ P ∧ P ≤ 128 := ⟨_, rfl, s7, s6⟩
        rw [eP] at hrow
        obtain ⟨hr0, hr1⟩ := hrow
        have HS := Lib.hid (rowV_succ (indP l X i) k)
        rw [eP] at HS
        obtain ⟨ρ, hρ⟩ : ∃ ρ, ρ = rowV (indP l X i) k := ⟨_, rfl⟩
        rw [← hρ] at hr0 hr1 HS
        clear s6 s7
        by_cases hlt2 : k < m
        · obtain ⟨⟨c0, c1, cz⟩, -, cI, -, cK⟩ := K.out _ HB2.out
          have e0 := cK i hlt
          have e1 := cK k hlt2
          obtain ⟨-, hkk2, hkk3⟩ := HNT.out k hlt2
          have HI := Lib.hid cI
          have HP := Lib.hid (show edB l (klN X i) (klN X k) = indP l X i k from rfl)
          obtain ⟨ki, hki⟩ : ∃ ki, ki = klN X i := ⟨_, rfl⟩
          obtain ⟨kk, hkk⟩ : ∃ kk, kk = klN X k := ⟨_, rfl⟩
          rw [← hki, ← hkk] at HP
          rw [← hki] at e0
          rw [← hkk] at e1 hkk3
          have hkil : ki < l.length := by rw [hki]; exact hki2
          rw [← hρ]
          clear cI cK hki hkk hρ hkk2
          go_wp2
          go_still_tail 9, (by kernel_rfl)
          change wpList _ _ _ _ _ wr.drew
          go_wp2_with fail
          refine (l2Edge_is n _ l ki kk _ (HI.out.on (Below.refl _ _).drew) hkil (by omega)).mono ?_
          rintro e w4 ⟨rfl, hb⟩
          have HB4 := Lib.hid ((HBI.out.drew).trans (hb.mono (HBI.out.size)))
          clear hb e0 e1 c0 c1 cz
          rw [HP.out]
          cases hp : indP l X i k with
          | false =>
            have HS2 := Lib.hid (show rowV (indP l X i) (k + 1) = ρ by rw [HS.out, hp]; simp)
            clear hp
            go_wp2
            go_roundw
            case rel => exact ⟨k + 1, by omega, by go_num, by rw [HS2.out], HB4.out⟩
            case measure => simp [intOf]; omega
          | true =>
            have HS2 := Lib.hid (show rowV (indP l X i) (k + 1) = ρ + P by rw [HS.out, hp]; simp)
            have g1 : IntKind.i64.wrap (1 * P) = P := IntWalk.i64_in _ (by omega) |>.trans (by omega)
            have g2 : IntKind.i64.wrap P = P := IntWalk.i64_in _ (by omega)
            have g3 : IntKind.i64.wrap (ρ + P) = ρ + P := IntWalk.i64_in _ (by omega)
            clear hp
            go_wp2
            go_roundw
            case rel => exact ⟨k + 1, by omega, by go_num, by rw [HS2.out], HB4.out⟩
            case measure => simp [intOf]; omega
        · obtain rfl : k = m := by omega
          have HO4 := Lib.hid (HO.out.on HBI.out)
          have HX4 := Lib.hid (HX.out.keep (below_grown HBI.out) (by simp))
          have hf4 : wr.frozen? ⟨w2.heap.size, 1, none⟩ = false := by
            rw [HBI.out.frozen (p := ⟨w2.heap.size, 1, none⟩) (by show w2.heap.size < wo.heap.size; exact HX.out.2.2)]; exact HF.out
          have HF4 := Lib.hid hf4
          have HT := Lib.hid (show (indR l X).take (i + 1) = (indR l X).take i ++ [ρ] by rw [take_nth _ i (by rw [HRL.out]; exact hlt), HRN.out i hlt, ← hρ])
          obtain ⟨x0, x1, xz⟩ := HX4.out
          have hszr : w2.heap.size + 1 ≤ wr.heap.size := by omega
          have hul : ∀ k, u.ownBlock = some k → w2.heap.size + 1 ≤ k ∧ k < wr.heap.size := fun k hk => HO4.out.lt k hk
          have HUL := Lib.hid hul
          rw [← hρ]
          clear hρ hul
          go_wp2_with (at_builtin; refine wpList_append_int rfl (.tmp 52) (.tmp 54) 22 rfl (w2.heap.size + 1) i0 Try.underlying22 hi hi0 hi1 hi2 u _ rfl HO4.out ρ (by omega) (by omega) rfl (by rw [HLN.out]; omega) hszr ?_)
          intro v' w5 ho5 hg5 hv5
          rcases ho5.form with ⟨h, -⟩ | ⟨g', cap', rfl, -, -, -, -, -, -⟩
          · exact absurd h hv5
          have hgr : wr.grownBy w5 u.ownBlock := grown_trans (grown_alloc wr (.cells #[.int .i64 ρ] 3) _) hg5
          have hne : ∀ q, q < w2.heap.size + 1 → u.ownBlock ≠ some q := fun q hq h => by have := (HUL.out _ h).1; omega
          have HX5 := Lib.hid (HX4.out.keep hgr (hne _ (by omega)))
          have hf5 : w5.frozen? ⟨w2.heap.size, 1, none⟩ = false := by rw [(gcell hgr).2 _ _ (by omega) (fun e => hne _ (by omega) e.symm)]; exact HF4.out
          have HB5 := Lib.hid (HB2.out.grown hgr HB2.out.size (fun q hq => by have := (HUL.out _ hq).1; omega))
          have HO5 := Lib.hid ho5
          obtain ⟨y0, y1, yz⟩ := HX5.out
          have hlen5 : ((indR l X).take i ++ [ρ]).length = i + 1 := by rw [List.length_append, HLN.out]; rfl
          rw [hlen5] at HO5 ⊢
          clear ho5 hg5 hgr x0 x1 xz hlen5
          go_wp2
          go_roundw
          case rel => exact ⟨i + 1, _, by omega, by go_num, by rw [HT.out]; exact HO5.out.setBelow (a := ⟨w2.heap.size, 1, none⟩) (by simp) _, HX5.out.setRows, by simpa using hf5, HB5.out.setCell (p := ⟨w2.heap.size, 1, none⟩) (by simp) _⟩
          case measure => simp [intOf]; omega
    · obtain rfl : i = m := by omega
      have hall : (indR l X).take i = indR l X := List.take_of_length_le (by rw [HRL.out]; exact Nat.le_refl _)
      rw [hall] at hown
      obtain ⟨au, capu, rfl, -, -⟩ := hown.ints.form
      obtain ⟨-, ⟨b0, b1, b2, b3, b4⟩, -, hbw, -⟩ := K.out _ hbel
      obtain ⟨x0, x1, xz⟩ := hbx
      have HO := Lib.hid hown
      have HB := Lib.hid hbw
      clear hall hown hbel hbw
      go_wp2
      refine bodyPost_ret (v := .tuple #[.agg #[.int .i64 i, .slice au (indR l X).length capu], .bool true]) (by simp [results, Try.results55, go_sem, b0, b1, b2, b3]) rfl ⟨_, rfl, ?_, ?_⟩
      · exact ((HO.out.setBelow (a := ⟨w.heap.size + 1, 0, none⟩) (by simp <;> omega) _).setBelow (a := ⟨w.heap.size + 1, 1, none⟩) (by simp <;> omega) _).mono (by omega)
      · exact (HB.out.setCell (by simp) _).setCell (by simp) _

theorem specInduced (n : Int) (v : Value) (l : List Int) (x : Int) (w : World) (h : Ints w v l) :
    Calls Try.prog 55 #[.agg #[.int .i64 n, v], .int .i64 x] w (GetsGB w.heap.size w (indN n l x) (indL n l x) (decide (IndOk n l x))) := by
  by_cases hok : IndOk n l x
  · rw [show indN n l x = ((memN x.toNat).length : Int) by unfold indN; rw [if_pos hok], show indL n l x = indR l x.toNat by unfold indL; rw [if_pos hok], decide_eq_true hok]
    exact specInduced_yes n v l x w h hok
  · rw [show indN n l x = 0 by unfold indN; rw [if_neg hok], show indL n l x = [] by unfold indL; rw [if_neg hok], decide_eq_false hok]
    exact specInduced_no n v l x w h hok

end Go.Proofs.Ytbgkceekkinngac
