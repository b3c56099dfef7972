/- Walks over ComplementOf. -/
import Derived.Test.YtgfndgjabhabjabG8
import Derived.StillTailTactics
namespace Go.Proofs.Ytgfndgjabhabjab
set_option linter.unusedVariables false
set_option linter.unusedSimpArgs false
open Go.RowKit

/-- The rows of the complement. -/
def compL (l : List Int) : List Int := adjL l.length (symR fun i j => !edB l i j)

theorem compL_length (l : List Int) : (compL l).length = l.length := adjL_length _ _

theorem compL_nth {n : Int} {l : List Int} (h : IsG n l) (v : Nat) (hv : v < l.length) : nth (compL l) v = 2 ^ n.toNat - 1 - nth l v - 2 ^ v := by
  have hn : n.toNat = l.length := by have := h.2.2.1; omega
  unfold compL
  rw [adjL_nth _ _ v hv, hn]
  have hx : nth l v = rowV (edB l v) l.length := by
    have := adj_of_isG h
    have h2 := adjL_nth l.length (fun i j => decide (bitAt (nth l i) j = 1)) v hv
    rw [← this] at h2
    exact h2
  have hd : edB l v v = false := by
    have := (h.2.2.2 v hv).1.2.2
    simp [edB, this]
  rw [hx, ← rowV_comp (edB l v) l.length v hv hd]
  refine rowV_congr _ _ _ fun j hj => ?_
  unfold symR
  rcases Nat.lt_trichotomy v j with h1 | h1 | h1
  · rw [if_pos h1]; simp; intro _; omega
  · subst h1; simp
  · rw [if_neg (by omega), if_pos h1]
    have : edB l j v = edB l v j := by unfold edB; rw [h.sym hv hj]
    show (!edB l j v) = (!edB l v j && decide (j ≠ v))
    rw [this]; simp; intro _; omega

set_option maxRecDepth 100000 in
theorem enters_comp : Enters 87 := fun args W => by rfl

set_option maxHeartbeats 1000000 in
theorem rule_comp (q : Nat) (n : Int) (v : Value) (l : List Int) (W0 : World) (hb : BoxG q n v W0) (hI : Ints W0 v l) (hl : l.length ≤ 7) :
    Rule 87 #[.pointer (some ⟨q, 0, none⟩)] l.length (fun i j => !edB l i j) W0 := by
  intro W i j hij hj hbel
  obtain ⟨c0, c1, cz⟩ := hb.keep (below_grown hbel) (by simp)
  obtain ⟨a, cap, rfl, -, -⟩ := hI.form
  have HI := Lib.hid (hI.on hbel)
  clear hb hI hbel
  show Calls Try.prog 87 #[.int .i64 i, .int .i64 j, .pointer (some ⟨q, 0, none⟩)] W _
  go_enter Try.func87, Try.ntmps87
  go_wp2_with fail
  refine (areJoined_is n _ l i j _ HI.out (by omega) (by omega)).mono ?_
  rintro e w1 ⟨rfl, hb⟩
  have HB := Lib.hid hb
  clear hb
  go_wp2
  go_ret
  exact ⟨rfl, HB.out⟩

set_option maxHeartbeats 2000000 in
set_option maxRecDepth 100000 in
theorem implComplement_yes (n : Int) (v : Value) (l : List Int) (w : World) (h : Ints w v l) (hg : IsG n l) :
    Calls Try.prog 70 #[.agg #[.int .i64 n, v]] w (GetsGB w.heap.size w n (compL l) true) := by
  obtain ⟨a, cap, rfl, -, -⟩ := h.form
  have hmf : ∀ (fn : Fn) (first cap : Array Value) (w : World), (Instr.makeFunc fn first cap).run Try.prog w = .ok (.func fn first cap) w := fun _ _ _ _ => rfl
  have HI := Lib.hid h
  have HG := Lib.hid hg
  obtain ⟨m, rfl⟩ : ∃ m : Nat, n = m := ⟨n.toNat, by have := hg.1; omega⟩
  have hlm : m = l.length := by have := hg.2.2.1; omega
  have h17 : 1 ≤ m ∧ m ≤ 7 := ⟨by have := hg.1; omega, by have := hg.2.1; omega⟩
  have HL := Lib.hid hlm
  obtain ⟨hm1, hm7⟩ := h17
  have BX := Lib.hid ((BoxG.new w 28 m (.slice a l.length cap) ⟨_, _, _, rfl⟩).keep (grown_alloc _ (.cells #[.int .i64 0, .slice none 0 0] 28) none) (by simp))
  have BL := Lib.hid (Blank.new (w.alloc (.cells #[.int .i64 m, .slice a l.length cap] 28)) 28)
  have II := Lib.hid ((h.alloc (.cells #[.int .i64 m, .slice a l.length cap] 28)).alloc (.cells #[.int .i64 0, .slice none 0 0] 28))
  have BB := Lib.hid (((Below.refl _ w).alloc (Nat.le_refl _) (.cells #[.int .i64 m, .slice a l.length cap] 28)).alloc (by simp) (.cells #[.int .i64 0, .slice none 0 0] 28))
  clear h hg hlm
  go_enter Try.func70, Try.ntmps70
  go_wp2_with fail
  refine (implIsG_any m _ l _ II.out).mono ?_
  rintro e w1 ⟨r, rfl, hr, hb⟩
  obtain rfl : r = true := hr.2 HG.out
  have BX1 := Lib.hid (BX.out.keep (below_grown hb) (by simp))
  have BL1 := Lib.hid (BL.out.keep (below_grown hb) (by simp))
  have II1 := Lib.hid (II.out.on hb)
  have BB1 := Lib.hid (BB.out.trans (hb.mono BB.out.size))
  clear hb hr BX BL II BB
  obtain ⟨c0, c1, cz⟩ := BX1.out
  go_wp2_with fail
  refine (graphWith_any 87 #[.pointer (some ⟨w.heap.size, 0, none⟩)] m (fun i j => !edB l i j) _ hm1 hm7 enters_comp (by rw [HL.out]; exact rule_comp w.heap.size m _ l _ BX1.out II1.out (by rw [← HL.out]; exact hm7))).mono ?_
  rintro e w2 ⟨v2, rfl, ho, hb⟩
  have BL2 := BL1.out.keep (below_grown hb) (by simp)
  have BB2 := Lib.hid (BB1.out.trans (hb.mono BB1.out.size))
  obtain ⟨a2, cap2, rfl, -, -⟩ := ho.ints.form
  have hbl : w.heap.size + 1 < w1.heap.size := by have := BL1.out.2.2.2.2; simpa using this
  have HO := Lib.hid ho
  clear ho hb c0 c1 cz hmf
  obtain ⟨b0, b1, b2, b3, b4⟩ := BL2
  simp only [World.size_alloc] at b0 b1 b2 b3 b4
  go_wp2
  refine bodyPost_ret (v := .tuple #[.agg #[.int .i64 m, .slice a2 _ cap2], .bool true]) (by simp [results, Try.results70, go_sem, b0, b1, b2, b3]; rfl) rfl ⟨_, rfl, ?_, ?_⟩
  · have := HO.out
    unfold compL
    rw [← HL.out]
    exact ((this.setBelow (by simpa using hbl) _).setBelow (by simpa using hbl) _).mono BB1.out.size
  · exact (BB2.out.setCell (by simp) _).setCell (by simp) _

set_option maxHeartbeats 1000000 in
theorem implComplement_no (n : Int) (v : Value) (l : List Int) (w : World) (h : Ints w v l) (hg : ¬ IsG n l) :
    Calls Try.prog 70 #[.agg #[.int .i64 n, v]] w (GetsGB w.heap.size w 0 [] false) := by
  obtain ⟨a, cap, rfl, -, -⟩ := h.form
  have HG := Lib.hid hg
  have BL := Lib.hid (Blank.new (w.alloc (.cells #[.int .i64 n, .slice a l.length cap] 28)) 28)
  have II := Lib.hid ((h.alloc (.cells #[.int .i64 n, .slice a l.length cap] 28)).alloc (.cells #[.int .i64 0, .slice none 0 0] 28))
  have BB := Lib.hid (((Below.refl _ w).alloc (Nat.le_refl _) (.cells #[.int .i64 n, .slice a l.length cap] 28)).alloc (by simp) (.cells #[.int .i64 0, .slice none 0 0] 28))
  clear h hg
  go_enter Try.func70, Try.ntmps70
  go_wp2_with fail
  refine (implIsG_any n _ l _ II.out).mono ?_
  rintro e w1 ⟨r, rfl, hr, hb⟩
  obtain rfl : r = false := by
    cases r with
    | false => rfl
    | true => exact absurd (hr.1 rfl) HG.out
  have BL1 := BL.out.keep (below_grown hb) (by simp)
  have BB1 := Lib.hid (BB.out.trans (hb.mono BB.out.size))
  clear hb hr BL II BB
  obtain ⟨b0, b1, b2, b3, b4⟩ := BL1
  simp only [World.size_alloc] at b0 b1 b2 b3 b4
  go_wp2
  refine bodyPost_ret (v := .tuple #[.agg #[.int .i64 0, .slice none 0 0], .bool false]) (by simp [results, Try.results70, go_sem, b0, b1, b2, b3]) rfl ⟨_, rfl, ⟨inI64_nil, World.ownsRow_nil _ _ _ _⟩, ?_⟩
  exact (BB1.out.setCell (by simp) _).setCell (by simp) _

theorem grown_set (w : World) (q j : Nat) (u : Value) : w.grownBy (w.setCell ⟨q, j, none⟩ u) (some q) :=
  ⟨rfl, rfl, rfl, by simp, fun k _ hk => Below.heap_setCell w ⟨q, j, none⟩ u k (fun e => hk (by rw [e]))⟩

theorem BoxG.setRows {q : Nat} {n : Int} {u v : Value} {w : World} (h : BoxG q n u w) : BoxG q n v (w.setCell ⟨q, 1, none⟩ v) :=
  ⟨by rw [World.cell?_setCell_other _ _ _ _ (by simp)]; exact h.1, World.cell?_setCell_same _ _ _ h.2.1, by simpa using h.2.2⟩

theorem take_nth (l : List Int) (k : Nat) (h : k < l.length) : l.take (k + 1) = l.take k ++ [nth l k] := by
  rw [List.take_succ_eq_append_getElem h]
  simp [nth, List.getD, h]

theorem compL_in {n : Int} {l : List Int} (h : IsG n l) : inI64 (compL l) := adjL_in _ _ (by have := h.2.2.1; have := h.2.1; omega)

theorem inI64_take {l : List Int} (h : inI64 l) (k : Nat) : inI64 (l.take k) := fun x hx => h x (List.mem_of_mem_take hx)

end Go.Proofs.Ytgfndgjabhabjab
