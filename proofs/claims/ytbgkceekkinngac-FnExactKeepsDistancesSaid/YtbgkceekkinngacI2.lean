/- Walks over the program's InducedOn: the answer. -/
import Derived.Test.YtbgkceekkinngacI1
namespace Go.Proofs.Ytbgkceekkinngac
set_option linter.unusedVariables false
set_option linter.unusedSimpArgs false
open Go.RowKit

/-- Where there is an answer. -/
def IndOk (n : Int) (l : List Int) (x : Int) : Prop := IsS n l x ∧ x ≠ 0

instance (n : Int) (l : List Int) (x : Int) : Decidable (IndOk n l x) := by unfold IndOk; infer_instance

def indN (n : Int) (l : List Int) (x : Int) : Int := if IndOk n l x then ((memN x.toNat).length : Int) else 0

def indL (n : Int) (l : List Int) (x : Int) : List Int := if IndOk n l x then indR l x.toNat else []

theorem mem_len_le (X : Nat) : (memN X).length ≤ 7 := by
  unfold memN
  have := List.length_filter_le (fun v => X.testBit v) (List.range 7)
  simpa using this

theorem indL_length (n : Int) (l : List Int) (x : Int) : (indL n l x).length ≤ 7 := by
  unfold indL
  split
  · rw [indR_length]; exact mem_len_le _
  · simp

set_option maxHeartbeats 2000000 in
set_option maxRecDepth 100000 in
theorem implInduced_no (n : Int) (v : Value) (l : List Int) (x : Int) (w : World) (h : Ints w v l) (hno : ¬ IndOk n l x) :
    Calls Try.prog 59 #[.agg #[.int .i64 n, v], .int .i64 x] w (GetsGB w.heap.size w 0 [] false) := by
  obtain ⟨a, cap, rfl, -, -⟩ := h.form
  have HN := Lib.hid hno
  have BL := Lib.hid (Blank.new (w.alloc (.cells #[.int .i64 n, .slice a l.length cap] 27)) 27)
  have II := Lib.hid ((h.alloc (.cells #[.int .i64 n, .slice a l.length cap] 27)).alloc (.cells #[.int .i64 0, .slice none 0 0] 27))
  have BB := Lib.hid (((Below.refl _ w).alloc (Nat.le_refl _) (.cells #[.int .i64 n, .slice a l.length cap] 27)).alloc (by simp) (.cells #[.int .i64 0, .slice none 0 0] 27))
  clear h hno
  go_enter Try.func59, Try.ntmps59
  go_wp2_with fail
  refine (implIsSet n _ l x _ II.out).mono ?_
  rintro e w1 ⟨r, rfl, hr, hb⟩
  have BL1 := BL.out.keep (below_grown hb) (by simp)
  have BB1 := Lib.hid (BB.out.trans (hb.mono BB.out.size))
  have HR := Lib.hid hr
  clear hb hr BL II BB
  obtain ⟨b0, b1, b2, b3, b4⟩ := BL1
  simp only [World.size_alloc] at b0 b1 b2 b3 b4
  cases r with
  | false =>
    go_wp2
    refine bodyPost_ret (v := .tuple #[.agg #[.int .i64 0, .slice none 0 0], .bool false]) (by simp [results, Try.results59, go_sem, b0, b1, b2, b3]) rfl ⟨_, rfl, ⟨inI64_nil, World.ownsRow_nil _ _ _ _⟩, ?_⟩
    exact (BB1.out.setCell (by simp) _).setCell (by simp) _
  | true =>
    obtain rfl : x = 0 := by
      by_cases h0 : x = 0
      · exact h0
      · exact absurd ⟨HR.out.1 rfl, h0⟩ HN.out
    go_wp2
    refine bodyPost_ret (v := .tuple #[.agg #[.int .i64 0, .slice none 0 0], .bool false]) (by simp [results, Try.results59, go_sem, b0, b1, b2, b3]) rfl ⟨_, rfl, ⟨inI64_nil, World.ownsRow_nil _ _ _ _⟩, ?_⟩
    exact (BB1.out.setCell (by simp) _).setCell (by simp) _

set_option maxHeartbeats 2000000 in
set_option maxRecDepth 100000 in
theorem implInduced_yes (n : Int) (v : Value) (l : List Int) (x : Int) (w : World) (h : Ints w v l) (hok : IndOk n l x) :
    Calls Try.prog 59 #[.agg #[.int .i64 n, v], .int .i64 x] w (GetsGB w.heap.size w ((memN x.toNat).length : Int) (indR l x.toNat) true) := by
  obtain ⟨a, cap, rfl, -, -⟩ := h.form
  have hmf : ∀ (fn : Fn) (first cap : Array Value) (w : World), (Instr.makeFunc fn first cap).run Try.prog w = .ok (.func fn first cap) w := fun _ _ _ _ => rfl
  obtain ⟨hs, hx0⟩ := hok
  have HG := Lib.hid hs
  obtain ⟨X, hXx⟩ : ∃ X, X = x.toNat := ⟨_, rfl⟩
  have hxn := hs.nat
  rw [← hXx] at hxn
  rw [← hXx]
  obtain ⟨rfl, hX2, hl7⟩ := hxn
  have hX7 : X < 128 := Nat.lt_of_lt_of_le hX2 (two_le _ hl7)
  have d1 : ((X : Int) == 0) = false := by simp; omega
  have HX2 := Lib.hid hX2
  obtain ⟨m, hm⟩ : ∃ m, m = (memN X).length := ⟨_, rfl⟩
  rw [← hm]
  have hm7 : m ≤ 7 := by rw [hm]; exact mem_len_le X
  have hm1 : 1 ≤ m := by
    have := (low_facts X (by omega) hX7).2.2.1
    omega
  have hlr : (listR (X : Int)).length = m := by rw [hm]; exact listR_len hX7
  have HM := Lib.hid hm
  have HLR := Lib.hid hlr
  have BX := Lib.hid ((BoxG.new w 27 n (.slice a l.length cap) ⟨_, _, _, rfl⟩).keep (grown_alloc _ (.cells #[.int .i64 0, .slice none 0 0] 27) none) (by simp))
  have BL := Lib.hid (Blank.new (w.alloc (.cells #[.int .i64 n, .slice a l.length cap] 27)) 27)
  have II := Lib.hid ((h.alloc (.cells #[.int .i64 n, .slice a l.length cap] 27)).alloc (.cells #[.int .i64 0, .slice none 0 0] 27))
  have BB := Lib.hid (((Below.refl _ w).alloc (Nat.le_refl _) (.cells #[.int .i64 n, .slice a l.length cap] 27)).alloc (by simp) (.cells #[.int .i64 0, .slice none 0 0] 27))
  clear h hs hXx hX2 hm hlr
  go_enter Try.func59, Try.ntmps59
  go_wp2_with fail
  refine (implIsSet n _ l X _ II.out).mono ?_
  rintro e w1 ⟨r, rfl, hr, hb⟩
  obtain rfl : r = true := hr.2 HG.out
  have BX1 := Lib.hid (BX.out.keep (below_grown hb) (by simp))
  have BL1 := Lib.hid (BL.out.keep (below_grown hb) (by simp))
  have II1 := Lib.hid (II.out.on hb)
  have BB1 := Lib.hid (BB.out.trans (hb.mono BB.out.size))
  clear hb hr BX BL II BB
  go_wp2_with fail
  refine (implListOf X _).mono ?_
  rintro e w2 ⟨vk, rfl, ho, hb⟩
  have BX2 := Lib.hid (BX1.out.keep (below_grown hb) (by simp))
  have BL2 := Lib.hid (BL1.out.keep (below_grown hb) (by simp))
  have II2 := Lib.hid (II1.out.on hb)
  have BB2 := Lib.hid (BB1.out.trans (hb.mono BB1.out.size))
  obtain ⟨ak, capk, rfl, -, hmk⟩ := ho.ints.form
  have HK := Lib.hid ho.ints
  unfold maxLen at hmk
  clear ho hb BX1 BL1 II1 BB1
  rw [HLR.out] at HK ⊢
  obtain ⟨w3, hw3⟩ : ∃ w3, w3 = w2.alloc (.cells #[.slice ak m capk] 22) := ⟨_, rfl⟩
  have G3 : w2.grownBy w3 none := by rw [hw3]; exact grown_alloc _ _ _
  have BX3 := Lib.hid (BX2.out.keep G3 (by simp))
  have BL3 := Lib.hid (BL2.out.keep G3 (by simp))
  have II3 := Lib.hid (show Ints w3 (.slice a l.length cap) l by rw [hw3]; exact II2.out.alloc _)
  have BB3 := Lib.hid (show Below w.heap.size w w3 by rw [hw3]; exact BB2.out.alloc BB2.out.size _)
  have K3 := Lib.hid (show Boxed w3 w2.heap.size 22 (.slice ak m capk) by rw [hw3]; exact Boxed.new _ _ _)
  have KI3 := Lib.hid (show Ints w3 (.slice ak m capk) (listR X) by rw [hw3]; exact HK.out.alloc _)
  go_wp2_with fail
  rw [← hw3]
  clear hw3 G3 BX2 BL2 II2 BB2 HK
  refine (graphWith_any 104 #[.pointer (some ⟨w.heap.size, 0, none⟩), .pointer (some ⟨w2.heap.size, 0, none⟩)] m (indP l X) _ hm1 hm7 enters_ind (by rw [HM.out]; exact rule_ind w.heap.size w2.heap.size n _ _ l X _ HX2.out hX7 BX3.out K3.out II3.out KI3.out)).mono ?_
  rintro e w4 ⟨v4, rfl, ho, hb⟩
  have BL4 := BL3.out.keep (below_grown hb) (by simp)
  have BB4 := Lib.hid (BB3.out.trans (hb.mono BB3.out.size))
  obtain ⟨a4, cap4, rfl, -, -⟩ := ho.ints.form
  have hbl : w.heap.size + 1 < w3.heap.size := by have := BL3.out.2.2.2.2; simpa using this
  have HO := Lib.hid ho
  clear ho hb hmf
  obtain ⟨b0, b1, b2, b3, b4⟩ := BL4
  simp only [World.size_alloc] at b0 b1 b2 b3 b4
  go_wp2
  refine bodyPost_ret (v := .tuple #[.agg #[.int .i64 m, .slice a4 _ cap4], .bool true]) (by simp [results, Try.results59, go_sem, b0, b1, b2, b3]; rfl) rfl ⟨_, rfl, ?_, ?_⟩
  · have := HO.out
    rw [← show adjL m (symR (indP l X)) = indR l X by rw [HM.out]; exact ind_sym HG.out.1 HX2.out]
    exact ((this.setBelow (a := ⟨w.heap.size + 1, 0, none⟩) hbl _).setBelow (a := ⟨w.heap.size + 1, 1, none⟩) hbl _).mono BB3.out.size
  · exact (BB4.out.setCell (by simp) _).setCell (by simp) _

theorem implInduced (n : Int) (v : Value) (l : List Int) (x : Int) (w : World) (h : Ints w v l) :
    Calls Try.prog 59 #[.agg #[.int .i64 n, v], .int .i64 x] w (GetsGB w.heap.size w (indN n l x) (indL n l x) (decide (IndOk n l x))) := by
  by_cases hok : IndOk n l x
  · rw [show indN n l x = ((memN x.toNat).length : Int) by unfold indN; rw [if_pos hok], show indL n l x = indR l x.toNat by unfold indL; rw [if_pos hok], decide_eq_true hok]
    exact implInduced_yes n v l x w h hok
  · rw [show indN n l x = 0 by unfold indN; rw [if_neg hok], show indL n l x = [] by unfold indL; rw [if_neg hok], decide_eq_false hok]
    exact implInduced_no n v l x w h hok

end Go.Proofs.Ytbgkceekkinngac
