/- Walks over ComplementOf. -/
import Derived.Test.YtnlfoecdphhhdaaG8
import Derived.StillTailTactics
namespace Go.Proofs.Ytnlfoecdphhhdaa
set_option linter.unusedVariables false
set_option linter.unusedSimpArgs false
open Go.RowKit

/-- The rows of the complement. -/
def compL (l : List Int) : List Int := adjL l.length (symR fun i j => !edB l i j)

theorem compL_length (l : List Int) : (compL l).length = l.length := adjL_length _ _

theorem compL_nth {n : Int} {l : List Int} (h : IsG n l) (v : Nat) (hv : v < l.length) : nth (compL l) v = 2 ^ n.toNat - 1 - nth l v - 2 ^ v := by
  have hn : n.toNat = l.length := by have := h.2.2.1; omega
  unfold compL
  rw [adjL_nth _ _ v hv, hn]
  have hx : nth l v = rowV (edB l v) l.length := by
    have := adj_of_isG h
    have h2 := adjL_nth l.length (fun i j => decide (bitAt (nth l i) j = 1)) v hv
    rw [← this] at h2
    exact h2
  have hd : edB l v v = false := by
    have := (h.2.2.2 v hv).1.2.2
    simp [edB, this]
  rw [hx, ← rowV_comp (edB l v) l.length v hv hd]
  refine rowV_congr _ _ _ fun j hj => ?_
  unfold symR
  rcases Nat.lt_trichotomy v j with h1 | h1 | h1
  · rw [if_pos h1]; simp; intro _; omega
  · subst h1; simp
  · rw [if_neg (by omega), if_pos h1]
    have : edB l j v = edB l v j := by unfold edB; rw [h.sym hv hj]
    show (!edB l j v) = (!edB l v j && decide (j ≠ v))
    rw [this]; simp; intro _; omega

set_option maxRecDepth 100000 in
theorem enters_comp : Enters 70 := fun args W => by rfl

set_option maxHeartbeats 1000000 in
theorem rule_comp (q : Nat) (n : Int) (v : Value) (l : List Int) (W0 : World) (hb : BoxG q n v W0) (hI : Ints W0 v l) (hl : l.length ≤ 7) :
    Rule 70 #[.pointer (some ⟨q, 0, none⟩)] l.length (fun i j => !edB l i j) W0 := by
  intro W i j hij hj hbel
  obtain ⟨c0, c1, cz⟩ := hb.keep (below_grown hbel) (by simp)
  obtain ⟨a, cap, rfl, -, -⟩ := hI.form
  have HI := Lib.hid (hI.on hbel)
  clear hb hI hbel
  show Calls Try.prog 70 #[.int .i64 i, .int .i64 j, .pointer (some ⟨q, 0, none⟩)] W _
  go_enter Try.func70, Try.ntmps70
  go_wp2_with fail
  refine (areJoined_is n _ l i j _ HI.out (by omega) (by omega)).mono ?_
  rintro e w1 ⟨rfl, hb⟩
  have HB := Lib.hid hb
  clear hb
  go_wp2
  go_ret
  exact ⟨rfl, HB.out⟩

set_option maxHeartbeats 2000000 in
set_option maxRecDepth 100000 in
theorem implComplement_yes (n : Int) (v : Value) (l : List Int) (w : World) (h : Ints w v l) (hg : IsG n l) :
    Calls Try.prog 58 #[.agg #[.int .i64 n, v]] w (GetsGB w.heap.size w n (compL l) true) := by
  obtain ⟨a, cap, rfl, -, -⟩ := h.form
  have hmf : ∀ (fn : Fn) (first cap : Array Value) (w : World), (Instr.makeFunc fn first cap).run Try.prog w = .ok (.func fn first cap) w := fun _ _ _ _ => rfl
  have HI := Lib.hid h
  have HG := Lib.hid hg
  obtain ⟨m, rfl⟩ : ∃ m : Nat, n = m := ⟨n.toNat, by have := hg.1; omega⟩
  have hlm : m = l.length := by have := hg.2.2.1; omega
  have h17 : 1 ≤ m ∧ m ≤ 7 := ⟨by have := hg.1; omega, by have := hg.2.1; omega⟩
  have HL := Lib.hid hlm
  obtain ⟨hm1, hm7⟩ := h17
  have BX := Lib.hid ((BoxG.new w 28 m (.slice a l.length cap) ⟨_, _, _, rfl⟩).keep (grown_alloc _ (.cells #[.int .i64 0, .slice none 0 0] 28) none) (by simp))
  have BL := Lib.hid (Blank.new (w.alloc (.cells #[.int .i64 m, .slice a l.length cap] 28)) 28)
  have II := Lib.hid ((h.alloc (.cells #[.int .i64 m, .slice a l.length cap] 28)).alloc (.cells #[.int .i64 0, .slice none 0 0] 28))
  have BB := Lib.hid (((Below.refl _ w).alloc (Nat.le_refl _) (.cells #[.int .i64 m, .slice a l.length cap] 28)).alloc (by simp) (.cells #[.int .i64 0, .slice none 0 0] 28))
  clear h hg hlm
  go_enter Try.func58, Try.ntmps58
  go_wp2_with fail
  refine (implIsG_any m _ l _ II.out).mono ?_
  rintro e w1 ⟨r, rfl, hr, hb⟩
  obtain rfl : r = true := hr.2 HG.out
  have BX1 := Lib.hid (BX.out.keep (below_grown hb) (by simp))
  have BL1 := Lib.hid (BL.out.keep (below_grown hb) (by simp))
  have II1 := Lib.hid (II.out.on hb)
  have BB1 := Lib.hid (BB.out.trans (hb.mono BB.out.size))
  clear hb hr BX BL II BB
  obtain ⟨c0, c1, cz⟩ := BX1.out
  go_wp2_with fail
  refine (graphWith_any 70 #[.pointer (some ⟨w.heap.size, 0, none⟩)] m (fun i j => !edB l i j) _ hm1 hm7 enters_comp (by rw [HL.out]; exact rule_comp w.heap.size m _ l _ BX1.out II1.out (by rw [← HL.out]; exact hm7))).mono ?_
  rintro e w2 ⟨v2, rfl, ho, hb⟩
  have BL2 := BL1.out.keep (below_grown hb) (by simp)
  have BB2 := Lib.hid (BB1.out.trans (hb.mono BB1.out.size))
  obtain ⟨a2, cap2, rfl, -, -⟩ := ho.ints.form
  have hbl : w.heap.size + 1 < w1.heap.size := by have := BL1.out.2.2.2.2; simpa using this
  have HO := Lib.hid ho
  clear ho hb c0 c1 cz hmf
  obtain ⟨b0, b1, b2, b3, b4⟩ := BL2
  simp only [World.size_alloc] at b0 b1 b2 b3 b4
  go_wp2
  refine bodyPost_ret (v := .tuple #[.agg #[.int .i64 m, .slice a2 _ cap2], .bool true]) (by simp [results, Try.results58, go_sem, b0, b1, b2, b3]; rfl) rfl ⟨_, rfl, ?_, ?_⟩
  · have := HO.out
    unfold compL
    rw [← HL.out]
    exact ((this.setBelow (by simpa using hbl) _).setBelow (by simpa using hbl) _).mono BB1.out.size
  · exact (BB2.out.setCell (by simp) _).setCell (by simp) _

set_option maxHeartbeats 1000000 in
theorem implComplement_no (n : Int) (v : Value) (l : List Int) (w : World) (h : Ints w v l) (hg : ¬ IsG n l) :
    Calls Try.prog 58 #[.agg #[.int .i64 n, v]] w (GetsGB w.heap.size w 0 [] false) := by
  obtain ⟨a, cap, rfl, -, -⟩ := h.form
  have HG := Lib.hid hg
  have BL := Lib.hid (Blank.new (w.alloc (.cells #[.int .i64 n, .slice a l.length cap] 28)) 28)
  have II := Lib.hid ((h.alloc (.cells #[.int .i64 n, .slice a l.length cap] 28)).alloc (.cells #[.int .i64 0, .slice none 0 0] 28))
  have BB := Lib.hid (((Below.refl _ w).alloc (Nat.le_refl _) (.cells #[.int .i64 n, .slice a l.length cap] 28)).alloc (by simp) (.cells #[.int .i64 0, .slice none 0 0] 28))
  clear h hg
  go_enter Try.func58, Try.ntmps58
  go_wp2_with fail
  refine (implIsG_any n _ l _ II.out).mono ?_
  rintro e w1 ⟨r, rfl, hr, hb⟩
  obtain rfl : r = false := by
    cases r with
    | false => rfl
    | true => exact absurd (hr.1 rfl) HG.out
  have BL1 := BL.out.keep (below_grown hb) (by simp)
  have BB1 := Lib.hid (BB.out.trans (hb.mono BB.out.size))
  clear hb hr BL II BB
  obtain ⟨b0, b1, b2, b3, b4⟩ := BL1
  simp only [World.size_alloc] at b0 b1 b2 b3 b4
  go_wp2
  refine bodyPost_ret (v := .tuple #[.agg #[.int .i64 0, .slice none 0 0], .bool false]) (by simp [results, Try.results58, go_sem, b0, b1, b2, b3]) rfl ⟨_, rfl, ⟨inI64_nil, World.ownsRow_nil _ _ _ _⟩, ?_⟩
  exact (BB1.out.setCell (by simp) _).setCell (by simp) _

set_option maxHeartbeats 1000000 in
theorem specComplement_no (n : Int) (v : Value) (l : List Int) (w : World) (h : Ints w v l) (hg : ¬ IsG n l) :
    Calls Try.prog 57 #[.agg #[.int .i64 n, v]] w (GetsGB w.heap.size w 0 [] false) := by
  obtain ⟨a, cap, rfl, -, -⟩ := h.form
  have HG := Lib.hid hg
  have BL := Lib.hid (Blank.new (w.alloc (.cells #[.int .i64 n, .slice a l.length cap] 28)) 28)
  have II := Lib.hid ((h.alloc (.cells #[.int .i64 n, .slice a l.length cap] 28)).alloc (.cells #[.int .i64 0, .slice none 0 0] 28))
  have BB := Lib.hid (((Below.refl _ w).alloc (Nat.le_refl _) (.cells #[.int .i64 n, .slice a l.length cap] 28)).alloc (by simp) (.cells #[.int .i64 0, .slice none 0 0] 28))
  clear h hg
  go_enter Try.func57, Try.ntmps57
  go_wp2_with fail
  refine (specIsG_any n _ l _ II.out).mono ?_
  rintro e w1 ⟨r, rfl, hr, hb⟩
  obtain rfl : r = false := by
    cases r with
    | false => rfl
    | true => exact absurd (hr.1 rfl) HG.out
  have BL1 := BL.out.keep (below_grown hb) (by simp)
  have BB1 := Lib.hid (BB.out.trans (hb.mono BB.out.size))
  clear hb hr BL II BB
  obtain ⟨b0, b1, b2, b3, b4⟩ := BL1
  simp only [World.size_alloc] at b0 b1 b2 b3 b4
  go_wp2
  refine bodyPost_ret (v := .tuple #[.agg #[.int .i64 0, .slice none 0 0], .bool false]) (by simp [results, Try.results57, go_sem, b0, b1, b2, b3]) rfl ⟨_, rfl, ⟨inI64_nil, World.ownsRow_nil _ _ _ _⟩, ?_⟩
  exact (BB1.out.setCell (by simp) _).setCell (by simp) _

theorem grown_set (w : World) (q j : Nat) (u : Value) : w.grownBy (w.setCell ⟨q, j, none⟩ u) (some q) :=
  ⟨rfl, rfl, rfl, by simp, fun k _ hk => Below.heap_setCell w ⟨q, j, none⟩ u k (fun e => hk (by rw [e]))⟩

theorem BoxG.setRows {q : Nat} {n : Int} {u v : Value} {w : World} (h : BoxG q n u w) : BoxG q n v (w.setCell ⟨q, 1, none⟩ v) :=
  ⟨by rw [World.cell?_setCell_other _ _ _ _ (by simp)]; exact h.1, World.cell?_setCell_same _ _ _ h.2.1, by simpa using h.2.2⟩

theorem take_nth (l : List Int) (k : Nat) (h : k < l.length) : l.take (k + 1) = l.take k ++ [nth l k] := by
  rw [List.take_succ_eq_append_getElem h]
  simp [nth, List.getD, h]

theorem compL_in {n : Int} {l : List Int} (h : IsG n l) : inI64 (compL l) := adjL_in _ _ (by have := h.2.2.1; have := h.2.1; omega)

theorem inI64_take {l : List Int} (h : inI64 l) (k : Nat) : inI64 (l.take k) := fun x hx => h x (List.mem_of_mem_take hx)

set_option maxHeartbeats 20000000 in
set_option maxRecDepth 100000 in
theorem specComplement_yes (n : Int) (v : Value) (l : List Int) (w : World) (h : Ints w v l) (hg : IsG n l) :
    Calls Try.prog 57 #[.agg #[.int .i64 n, v]] w (GetsGB w.heap.size w n (compL l) true) := by
  obtain ⟨i0, hi, hz0, hz1, hz2⟩ := info_parts infoInt
  have hlen := hg.2.2.1
  have hn1 := hg.1
  have hn7 := hg.2.1
  obtain ⟨b, off, cap, rfl, -, hmax, -, -⟩ := h.pos (by omega)
  have HG := Lib.hid hg
  have BX := Lib.hid ((BoxG.new w 28 n (.slice (some ⟨b, off, none⟩) l.length cap) ⟨_, _, _, rfl⟩).keep (grown_alloc _ (.cells #[.int .i64 0, .slice none 0 0] 28) none) (by simp))
  have BL := Lib.hid (Blank.new (w.alloc (.cells #[.int .i64 n, .slice (some ⟨b, off, none⟩) l.length cap] 28)) 28)
  have II := Lib.hid ((h.alloc (.cells #[.int .i64 n, .slice (some ⟨b, off, none⟩) l.length cap] 28)).alloc (.cells #[.int .i64 0, .slice none 0 0] 28))
  have BB := Lib.hid (((Below.refl _ w).alloc (Nat.le_refl _) (.cells #[.int .i64 n, .slice (some ⟨b, off, none⟩) l.length cap] 28)).alloc (by simp) (.cells #[.int .i64 0, .slice none 0 0] 28))
  have HW := Lib.hid h
  clear h hg
  unfold maxLen at hmax
  go_enter Try.func57, Try.ntmps57
  go_wp2_with fail
  refine (specIsG_any n _ l _ II.out).mono ?_
  rintro e w1 ⟨r, rfl, hr, hb⟩
  obtain rfl : r = true := hr.2 HG.out
  have BX1 := Lib.hid (BX.out.keep (below_grown hb) (by simp))
  have BL1 := Lib.hid (BL.out.keep (below_grown hb) (by simp))
  have BB1 := Lib.hid (BB.out.trans (hb.mono BB.out.size))
  have hbl : w.heap.size + 1 < w1.heap.size := by have := BL1.out.2.2.2.2; simpa using this
  clear hb hr BX BL II BB
  obtain ⟨c0, c1, cz⟩ := BX1.out
  go_wp2
  clear c0 c1 cz
  go_loopw [5] (fun i wr => ∃ (k : Nat) (u : Value), k ≤ l.length ∧ i = .int .i64 k ∧ OwnI (w1.heap.size + 1) wr u ((compL l).take k) ∧ BoxG w1.heap.size n u wr ∧ wr.frozen? ⟨w1.heap.size, 1, none⟩ = false ∧ BoxG w.heap.size n (.slice (some ⟨b, off, none⟩) l.length cap) wr ∧ Blank (w.heap.size + 1) wr ∧ Below w.heap.size w wr) (fun i _ => l.length - (intOf i).toNat)
  case atStart =>
    refine ⟨0, .slice none 0 0, by omega, rfl, ⟨by simpa using inI64_nil, by simpa [iv] using World.ownsRow_nil _ _ _ _⟩, BoxG.new w1 _ n _ ⟨_, _, _, rfl⟩, by simp [go_sem], BX1.out.keep (grown_alloc _ _ none) (by simp), ?_, BB1.out.alloc BB1.out.size _⟩
    have := BL1.out.keep (grown_alloc w1 (.cells #[.int .i64 n, .slice none 0 0] 28) none) (by simp)
    simpa using this
  case round =>
    obtain ⟨k, u, hk, rfl, hown, hbx, hfr, hba, hbl2, hbel⟩ := hrel
    have hsz := hbel.size
    obtain ⟨d0, d1, dz⟩ := hba
    obtain ⟨e0, e1, ez⟩ := hbx
    by_cases hlt : k < l.length
    · have hkn : (k : Int) < n := by omega
      have HI := Lib.hid (HW.out.on hbel)
      obtain ⟨b', off', cap', hv, _, _, hb, hcell⟩ := HI.out.pos (by omega)
      simp only [Value.slice.injEq, Option.some.injEq, Addr.mk.injEq, and_true] at hv
      obtain ⟨⟨rfl, rfl⟩, -, rfl⟩ := hv
      obtain ⟨x, hx⟩ : ∃ x, x = nth l k := ⟨_, rfl⟩
      have c1 := hcell k hlt
      rw [← hx] at c1
      have hxs := HG.out.small k hlt
      rw [← hx] at hxs
      have HC := Lib.hid (show nth (compL l) k = 2 ^ n.toNat - 1 - x - 2 ^ k by rw [hx]; exact compL_nth HG.out k hlt)
      have HT := Lib.hid (take_nth (compL l) k (by rw [compL_length]; exact hlt))
      obtain ⟨-, -, -, s4, s5⟩ := shl_one n (by omega) hn7
      obtain ⟨-, -, -, s6, s7⟩ := shl_one' k (by omega)
      obtain ⟨N, eN, hN1, hN2⟩ : ∃ N, (2 : Int) ^ n.toNat = N ∧ 1 ≤ N ∧ N ≤ 128 := ⟨_, rfl, by omega, s4⟩
      obtain ⟨K, eK, hK1, hK2⟩ : ∃ K, (2 : Int) ^ k = K ∧ 1 ≤ K ∧ K ≤ 128 := ⟨_, rfl, s7, s6⟩
      rw [eN, eK] at HC
      have hlen2 : ((compL l).take k).length = k := by rw [List.length_take, compL_length]; omega
      have HO := Lib.hid hown
      have HB := Lib.hid hbel
      have HBL := Lib.hid hbl2
      have HBA : Hid (BoxG w.heap.size n (.slice (some ⟨b, off, none⟩) l.length cap) wr) := ⟨d0, d1, dz⟩
      have HU : Hid (∀ w2, wr.grownBy w2 u.ownBlock → w2.cell? ⟨w1.heap.size, 1, none⟩ = some u ∧ w2.frozen? ⟨w1.heap.size, 1, none⟩ = false) := fun w2 hg => by
        obtain ⟨hc, hf⟩ := gcell hg
        have hne : some w1.heap.size ≠ u.ownBlock := fun h => by have := (HO.out.lt _ h.symm).1; omega
        exact ⟨by rw [hc _ _ ez hne]; exact e1, by rw [hf _ _ ez hne]; exact hfr⟩
      have HE : Hid (BoxG w1.heap.size n u wr) := ⟨e0, e1, ez⟩
      have HLN := Lib.hid hlen2
      have b1 : 0 ≤ x := hxs.1
      have b2 : x < 128 := hxs.2
      have g1 : IntKind.i64.wrap N = N := IntWalk.i64_in _ (by omega)
      have g2 : IntKind.i64.wrap (N - 1) = N - 1 := IntWalk.i64_in _ (by omega)
      have g3 : IntKind.i64.wrap (N - 1 - x) = N - 1 - x := IntWalk.i64_in _ (by omega)
      have g4 : IntKind.i64.wrap K = K := IntWalk.i64_in _ (by omega)
      have g5 : IntKind.i64.wrap (N - 1 - x - K) = N - 1 - x - K := IntWalk.i64_in _ (by omega)
      have g6 : -9223372036854775808 ≤ N - 1 - x - K := by omega
      have g7 : N - 1 - x - K ≤ 9223372036854775807 := by omega
      clear hcell hx hxs s4 s5 s6 s7 hown hbel hbl2 hlen2
      go_wp2
      go_region_law (refine step_append_int1 rfl (.tmp 20) (.tmp 34) 22 rfl (w1.heap.size + 1) i0 Try.underlying22 hi hz0 hz1 hz2 u _ rfl (HO.out.alloc _) wr.heap.size (N - 1 - x - K) g6 g7 rfl (by first | exact heap_alloc_new wr _ | (show (wr.alloc _).heap[wr.heap.size]? = _; exact heap_alloc_new wr _)) (by rw [HLN.out]; omega) (by simp; omega) ?_; intro g' cap' w2 ho2 hg2; rw [show ((compL l).take k ++ [N - 1 - x - K]).length = k + 1 by rw [List.length_append, HLN.out]; rfl] at ho2 ⊢; have hgr : wr.grownBy w2 u.ownBlock := grown_trans (grown_alloc wr (.cells #[.int .i64 (N - 1 - x - K)] 3) _) ⟨hg2.os, hg2.tape, hg2.output, hg2.size, hg2.block⟩; have k1 := HU.out w2 hgr; obtain ⟨k1, k2⟩ := k1; have HO2 := Lib.hid ho2; have HG2 := Lib.hid hgr; clear ho2 hg2 hgr)
      all_goals
        clear g1 g2 g3 g4 g5 eN eK c1 d0 d1 e0 e1
        go_wp2
        go_roundw
        case rel =>
          have hne : ∀ q, q < w1.heap.size + 1 → u.ownBlock ≠ some q := fun q hq h => by have := (HO.out.lt _ h).1; omega
          have hw1 := hbl
          refine ⟨k + 1, _, by omega, by go_num, by rw [HT.out, HC.out]; exact HO2.out.setBelow (a := ⟨w1.heap.size, 1, none⟩) (by simp) _, (HE.out.keep HG2.out (hne _ (by omega))).setRows, by simpa using k2, (HBA.out.keep HG2.out (hne _ (by omega))).keep (grown_set _ _ _ _) (by simp <;> omega), (HBL.out.keep HG2.out (hne _ (by omega))).keep (grown_set _ _ _ _) (by simp <;> omega), (HB.out.grown HG2.out HB.out.size (fun q hq => by have := (HO.out.lt _ hq).1; omega)).setCell (by simp <;> omega) _⟩
        case measure => simp [intOf]; omega
    · obtain rfl : k = l.length := by omega
      have hall : (compL l).take l.length = compL l := List.take_of_length_le (by rw [compL_length]; exact Nat.le_refl _)
      rw [hall] at hown
      obtain ⟨au, capu, rfl, -, -⟩ := hown.ints.form
      obtain ⟨b0, b1, b2, b3, b4⟩ := hbl2
      have HO := Lib.hid hown
      have HB := Lib.hid hbel
      have HL := Lib.hid (compL_length l)
      clear hall hown hbel
      go_wp2
      refine bodyPost_ret (v := .tuple #[.agg #[.int .i64 n, .slice au (compL l).length capu], .bool true]) (by simp [results, Try.results57, go_sem, b0, b1, b2, b3]) rfl ⟨_, rfl, ?_, ?_⟩
      · exact ((HO.out.setBelow (by simp <;> omega) _).setBelow (by simp <;> omega) _).mono (by omega)
      · exact (HB.out.setCell (by simp) _).setCell (by simp) _

end Go.Proofs.Ytnlfoecdphhhdaa
