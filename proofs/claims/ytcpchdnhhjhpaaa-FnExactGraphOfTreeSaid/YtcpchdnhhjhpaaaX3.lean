/- GraphOfTree: plain facts, and the program's. -/
import Derived.Test.YtcpchdnhhjhpaaaX2
import Derived.Test.YtcpchdnhhjhpaaaN1
import Derived.Test.YtcpchdnhhjhpaaaY10
import Derived.Test.YtcpchdnhhjhpaaaM8
import Derived.Deep.CutRange
namespace Go.Proofs.Ytcpchdnhhjhpaaa
set_option linter.unusedVariables false
set_option linter.unusedSimpArgs false
open Go.RowKit

/-- The edges when all in each of the first k bags are joined. -/
def treeE (l : List Int) : Nat → Nat → Nat → Bool
  | 0 => fun _ _ => false
  | k + 1 => joinP (treeE l k) (nth l k).toNat

theorem treeE_sym (N : Nat) (l : List Int) : ∀ k, Sym N (treeE l k)
  | 0 => ⟨fun _ _ _ _ => rfl, fun _ _ => rfl⟩
  | k + 1 => joinP_sym (treeE_sym N l k) _

def GtP (l m : List Int) (x : Int) : Prop := TreeP l m ∧ (1 ≤ x ∧ x ≤ 7) ∧ ∀ i, i < l.length → nth l i < 2 ^ x.toNat

instance (l m : List Int) (x : Int) : Decidable (GtP l m x) := by unfold GtP; infer_instance

def gtN (l m : List Int) (x : Int) : Int := if GtP l m x then x else 0
def gtL (l m : List Int) (x : Int) : List Int := if GtP l m x then adjL x.toNat (treeE l l.length) else []

theorem gtL_length (l m : List Int) (x : Int) : (gtL l m x).length ≤ 7 := by
  unfold gtL
  split
  · rename_i h
    rw [adjL_length]
    have := h.2.1.2
    omega
  · simp

theorem gt_no {l m : List Int} {x : Int} (h : ¬ GtP l m x) : gtN l m x = 0 ∧ gtL l m x = [] ∧ decide (GtP l m x) = false := by
  unfold gtN gtL
  rw [if_neg h, if_neg h]
  exact ⟨rfl, rfl, decide_eq_false h⟩

theorem gt_yes {l m : List Int} {N : Nat} (h : GtP l m N) : gtN l m N = N ∧ gtL l m N = adjL N (treeE l l.length) ∧ decide (GtP l m N) = true := by
  unfold gtN gtL
  rw [if_pos h, if_pos h]
  exact ⟨rfl, rfl, decide_eq_true h⟩

theorem adj_empty (n : Nat) : adjL n (symR (namR 5 n)) = adjL n (treeE [] 0) := adjL_congr n _ _ fun i _ j _ => by
  unfold symR namR treeE
  split
  · rfl
  · split <;> rfl

theorem CurQ.start {w0 w2 : World} {N : Nat} {L : List Int} {v : Value} (ho : OwnI (w0.heap.size + 1) w2 v L) (hbl : Blank w0.heap.size w2) (hB : Below w0.heap.size w0 w2) (T : TypeId) :
    CurQ w0 w2.heap.size N L v (w2.alloc (.cells #[.int .i64 N, v] T)) := by
  have hlt := hbl.2.2.2.2
  refine ⟨ho.alloc _, ⟨⟨?_, ?_, ?_⟩, by simp [go_sem], by simp [go_sem]⟩, hbl.keep (grown_alloc _ _ none) (by simp), hB.alloc hB.size _, fun k hk => ?_, hlt⟩
  · simp [go_sem]
  · obtain ⟨a, cap, rfl, -, -⟩ := ho.ints.form
    simp [go_sem]
  · simp
  · have := (ho.lt k hk).2
    omega

theorem CurQ.joined {w0 wr w' : World} {q N g cap : Nat} {L L' : List Int} (h : CurQ w0 q N L (.slice (some ⟨g, 0, none⟩) N cap) wr) (ho : OwnI (w0.heap.size + 1) w' (.slice (some ⟨g, 0, none⟩) N cap) L') (hg : wr.grownBy w' (some g)) :
    CurQ w0 q N L' (.slice (some ⟨g, 0, none⟩) N cap) w' := by
  obtain ⟨h1, h2, h3, h4, h5, h6⟩ := h
  have hgq := h5 g rfl
  have hgl := (h1.lt g rfl).1
  exact ⟨ho, h2.keep hg (by simp; exact hgq), h3.keep hg (by simp; omega), h4.grown hg h4.size (fun k hk => by have := Option.some.inj hk; omega), h5, h6⟩

set_option maxHeartbeats 4000000 in
set_option maxRecDepth 100000 in
theorem implGTree (v u : Value) (l m : List Int) (x : Int) (w : World) (h : Ints w v l) (g : Ints w u m) (hl : l.length ≤ 1048576) (hm : m.length ≤ 1048576) :
    Calls Try.prog 46 #[.agg #[v, u], .int .i64 x] w (GetsGB w.heap.size w (gtN l m x) (gtL l m x) (decide (GtP l m x))) := by
  obtain ⟨ad, cap, rfl, -, -⟩ := h.form
  obtain ⟨bd, cap', rfl, -, -⟩ := g.form
  have HI := Lib.hid h
  have HJ := Lib.hid g
  clear h g
  obtain ⟨w0, hw0⟩ : ∃ w0, w0 = (w.alloc (.cells #[.slice ad l.length cap, .slice bd m.length cap'] 58)) := ⟨_, rfl⟩
  have F0 := Lib.hid (show Below w.heap.size w w0 by rw [hw0]; exact (Below.refl _ w).alloc (Nat.le_refl _) _)
  have A0 := Lib.hid (show Box w.heap.size [.slice ad l.length cap, .slice bd m.length cap'] w0 by rw [hw0]; exact Box.new w _ _)
  have hz0 : w0.heap.size = w.heap.size + 1 := by rw [hw0]; simp
  obtain ⟨w1, hw1⟩ : ∃ w1, w1 = w0.alloc (.cells #[.int .i64 0, .slice none 0 0] 28) := ⟨_, rfl⟩
  have BL1 := Lib.hid (show Blank w0.heap.size w1 by rw [hw1]; exact Blank.new w0 _)
  have BB1 := Lib.hid (show Below w0.heap.size w0 w1 by rw [hw1]; exact (Below.refl _ w0).alloc (Nat.le_refl _) _)
  obtain ⟨nn, hnn⟩ : ∃ z, z = gtN l m x := ⟨_, rfl⟩
  obtain ⟨ll, hll⟩ : ∃ z, z = gtL l m x := ⟨_, rfl⟩
  obtain ⟨b, hbb⟩ : ∃ b, b = decide (GtP l m x) := ⟨_, rfl⟩
  rw [← hnn, ← hll, ← hbb]
  have HR := Lib.hid (show nn = gtN l m x ∧ ll = gtL l m x ∧ b = decide (GtP l m x) from ⟨hnn, hll, hbb⟩)
  clear hnn hll hbb
  have HOUT : Hid (∀ (W : World), Blank w0.heap.size W → Below w0.heap.size w0 W → ¬ GtP l m x → GetsGB w.heap.size w nn ll b (.returned (.tuple #[.agg #[.int .i64 0, .slice none 0 0], .bool false])) ((W.setCell ⟨w.heap.size + 1, 0, none⟩ (.int .i64 0)).setCell ⟨w.heap.size + 1, 1, none⟩ (.slice none 0 0))) := fun W hbl hbe hno => by
    obtain ⟨e1, e2, e3⟩ := gt_no hno
    rw [HR.out.1, HR.out.2.1, HR.out.2.2, e1, e2, e3]
    exact ⟨_, rfl, ⟨inI64_nil, World.ownsRow_nil _ _ _ _⟩, F0.out.trans (((hbe.setCell (p := ⟨w.heap.size + 1, 0, none⟩) (by show w0.heap.size ≤ w.heap.size + 1; omega) _).setCell (p := ⟨w.heap.size + 1, 1, none⟩) (by show w0.heap.size ≤ w.heap.size + 1; omega) _).mono F0.out.size)⟩
  by_cases hx : 1 ≤ x ∧ x ≤ 7
  · obtain ⟨N, rfl⟩ : ∃ N : Nat, x = N := ⟨x.toNat, by omega⟩
    have hN1 : 1 ≤ N := by omega
    have hN7 : N ≤ 7 := by omega
    go_enter Try.func46, Try.ntmps46
    go_wp2_with fail
    rw [← hw0, ← hw1]
    clear hw1
    refine (implNamed5 _ N _ hN1 hN7 (by decide +kernel)).mono ?_
    rintro e w2 ⟨v2, rfl, ho, hb⟩
    rw [adj_empty] at ho
    have BL2 := BL1.out.keep (below_grown hb) (by simp)
    have BB2 := BB1.out.trans (hb.mono BB1.out.size)
    have HC2 := Lib.hid (CurQ.start (N := N) (ho.mono (show w0.heap.size + 1 ≤ w1.heap.size from BL1.out.2.2.2.2)) BL2 BB2 28)
    rcases ho.form with ⟨-, hnil⟩ | ⟨g2, cap2, rfl, -⟩
    · have := congrArg List.length hnil
      rw [adjL_length] at this
      simp at this
      omega
    · rw [adjL_length] at HC2 ⊢
      obtain ⟨q, hq⟩ : ∃ q, q = w2.heap.size := ⟨_, rfl⟩
      obtain ⟨w3, hw3⟩ : ∃ w3, w3 = w2.alloc (.cells #[.int .i64 N, .slice (some ⟨g2, 0, none⟩) N cap2] 28) := ⟨_, rfl⟩
      rw [← hw3, ← hq] at HC2
      have A3 := Lib.hid (A0.out.on HC2.out.2.2.2.1)
      have y0 : w3.cell? ⟨w.heap.size, 0, none⟩ = some (.slice ad l.length cap) := A3.out.1 0 _ rfl
      have y1 : w3.cell? ⟨w.heap.size, 1, none⟩ = some (.slice bd m.length cap') := A3.out.1 1 _ rfl
      have F3 := Lib.hid (F0.out.trans (HC2.out.2.2.2.1.mono F0.out.size))
      clear ho hb BL2 BB2
      go_upto_region 2 with fail
      rw [← hq, ← hw3]
      clear hw3
      go_wp2_with fail
      refine (implIsTree _ _ l m _ (HI.out.on F3.out) (HJ.out.on F3.out) hl hm).mono ?_
      rintro e w4 ⟨r, rfl, hr, hb⟩
      have HRR := Lib.hid hr
      have HC4 := Lib.hid (HC2.out.on hb)
      clear hr hb y0 y1 HC2 A3 F3 hq
      cases r with
      | false =>
        have HNO := Lib.hid (show ¬ GtP l m N from fun h => absurd (HRR.out.2 h.1) (by decide))
        obtain ⟨b0, b1, b2, b3, b4⟩ := HC4.out.2.2.1
        rw [hz0] at b0 b1 b2 b3 b4
        go_wp2
        refine bodyPost_ret (v := .tuple #[.agg #[.int .i64 0, .slice none 0 0], .bool false]) (by simp [results, Try.results46, go_sem, b0, b1, b2, b3, b4] <;> rfl) rfl ?_
        exact HOUT.out _ HC4.out.2.2.1 HC4.out.2.2.2.1 HNO.out
      | true =>
        have HT := Lib.hid (HRR.out.1 (by first | rfl | trivial))
        have hl20 := HT.out.1.2
        have A4 := Lib.hid (A0.out.on HC4.out.2.2.2.1)
        have y0 : w4.cell? ⟨w.heap.size, 0, none⟩ = some (.slice ad l.length cap) := A4.out.1 0 _ rfl
        go_wp2
        clear y0
        go_loopw [26] (fun c wr => ∃ k : Nat, k ≤ l.length ∧ c = .int .i64 k ∧ Hid (CurQ w0 q N (adjL N (treeE l k)) (.slice (some ⟨g2, 0, none⟩) N cap2) wr) ∧ Hid (∀ i, i < k → nth l i < 2 ^ N)) (fun c _ => l.length - (intOf c).toNat)
        case atStart => exact ⟨0, by omega, rfl, HC4.out, fun i hi => absurd hi (by omega)⟩
        case round =>
          clear HC4 A4
          obtain ⟨k, hk, rfl, HC, HJ2⟩ := hrel
          obtain ⟨⟨c0, c1, cz⟩, c2, c3⟩ := HC.out.2.1
          by_cases hlt : k < l.length
          · have FW := Lib.hid (F0.out.trans (HC.out.2.2.2.1.mono F0.out.size))
            obtain ⟨bb, off, cap1, hv, _, _, hbb, hcell⟩ := (HI.out.on FW.out).pos (by omega)
            simp only [Value.slice.injEq] at hv
            obtain ⟨rfl, -, rfl⟩ := hv
            obtain ⟨z, hz⟩ : ∃ z, z = nth l k := ⟨_, rfl⟩
            have e0 := hcell k hlt
            rw [← hz] at e0
            have hzr := (HT.out.2.2 k hlt).1
            rw [← hz] at hzr
            have HZ := Lib.hid hz
            have HG := Lib.hid (adj_graph hN1 hN7 (treeE_sym N l k))
            clear hcell hz
            go_wp2_with fail
            have hh := implIsSet (N : Int) _ (adjL N (treeE l k)) z wr HC.out.1.ints
            refine hh.mono ?_
            rintro e w5 ⟨r, rfl, hr, hb⟩
            have HRZ := Lib.hid hr
            have HC5 := Lib.hid (HC.out.on hb)
            clear hh hr hb c0 c1 cz c2 c3 e0
            cases r with
            | false =>
              have HNO := Lib.hid (show ¬ GtP l m N from fun h => absurd (HRZ.out.2 ⟨HG.out, hzr.1, by rw [HZ.out]; exact h.2.2 k hlt⟩) (by decide))
              obtain ⟨b0, b1, b2, b3, b4⟩ := HC5.out.2.2.1
              rw [hz0] at b0 b1 b2 b3 b4
              go_wp2
              refine bodyPost_ret (v := .tuple #[.agg #[.int .i64 0, .slice none 0 0], .bool false]) (by simp [results, Try.results46, go_sem, b0, b1, b2, b3, b4] <;> rfl) rfl ?_
              exact HOUT.out _ HC5.out.2.2.1 HC5.out.2.2.2.1 HNO.out
            | true =>
              have hs := HRZ.out.1 (by first | rfl | trivial)
              have hz2 : z < 2 ^ N := by simpa using hs.2.2
              obtain ⟨Z, rfl⟩ : ∃ Z : Nat, z = (Z : Int) := ⟨z.toNat, by omega⟩
              have hZ2 : Z < 2 ^ N := by exact_mod_cast hz2
              have HZ2 := Lib.hid hZ2
              have HE := Lib.hid (show treeE l (k + 1) = joinP (treeE l k) Z by show joinP (treeE l k) (nth l k).toNat = _; rw [← HZ.out, Int.toNat_natCast])
              have HJ3 := Lib.hid (show ∀ i, i < k + 1 → nth l i < 2 ^ N from fun i hi => by
                rcases Nat.lt_or_ge i k with h | h
                · exact HJ2.out i h
                · obtain rfl : i = k := by omega
                  rw [← HZ.out]; exact hz2)
              clear hs hz2 hZ2 hzr
              go_wp2_with fail
              refine (implJoin (w0.heap.size + 1) N q g2 cap2 (treeE l k) Z w5 hN7 HZ2.out HC5.out.2.1.1 HC5.out.1 (HC5.out.2.2.2.2.1 g2 rfl)).mono ?_
              rintro e w6 ⟨rfl, ho6, hg6⟩
              have HC6 := Lib.hid (HC5.out.joined ho6 hg6)
              rw [← HE.out] at HC6
              clear ho6 hg6
              go_wp2
              go_roundw
              case rel => exact ⟨k + 1, by omega, by go_num, HC6.out, HJ3.out⟩
              case measure => simp [intOf]; omega
          · obtain rfl : k = l.length := by omega
            have HYES := Lib.hid (show GtP l m N from ⟨HT.out, hx, fun i hi => by simpa using HJ2.out i hi⟩)
            obtain ⟨e1, e2, e3⟩ := gt_yes HYES.out
            have HE := Lib.hid (show nn = N ∧ ll = adjL N (treeE l l.length) ∧ b = true by rw [HR.out.1, HR.out.2.1, HR.out.2.2, e1, e2, e3]; exact ⟨rfl, rfl, rfl⟩)
            obtain ⟨b0, b1, b2, b3, b4⟩ := HC.out.2.2.1
            rw [hz0] at b0 b1 b2 b3 b4
            clear e1 e2 e3
            go_wp2
            refine bodyPost_ret (v := .tuple #[.agg #[.int .i64 N, .slice (some ⟨g2, 0, none⟩) N cap2], .bool true]) (by simp [results, Try.results46, go_sem, b0, b1, b2, b3, b4] <;> rfl) rfl ?_
            rw [HE.out.1, HE.out.2.1, HE.out.2.2]
            refine ⟨_, rfl, ?_, ?_⟩
            · exact ((HC.out.1.setBelow (a := ⟨w.heap.size + 1, 0, none⟩) (by show w.heap.size + 1 < w0.heap.size + 1; omega) _).setBelow (a := ⟨w.heap.size + 1, 1, none⟩) (by show w.heap.size + 1 < w0.heap.size + 1; omega) _).mono (by omega)
            · exact F0.out.trans (((HC.out.2.2.2.1.setCell (p := ⟨w.heap.size + 1, 0, none⟩) (by show w0.heap.size ≤ w.heap.size + 1; omega) _).setCell (p := ⟨w.heap.size + 1, 1, none⟩) (by show w0.heap.size ≤ w.heap.size + 1; omega) _).mono F0.out.size)
  · have hno : ¬ GtP l m x := fun h => hx h.2.1
    have HNO := Lib.hid hno
    clear hno
    go_enter Try.func46, Try.ntmps46
    go_wp2_with fail
    rw [← hw0, ← hw1]
    clear hw1
    refine (implNamed_no _ x _ (fun h => hx ⟨h.2.1, h.2.2⟩)).mono ?_
    rintro e w2 ⟨v2, rfl, ho, hb⟩
    obtain ⟨a2, cap2, rfl, -, -⟩ := ho.ints.form
    have BL2 := Lib.hid (BL1.out.keep (below_grown hb) (by simp))
    have BB2 := Lib.hid (BB1.out.trans (hb.mono BB1.out.size))
    obtain ⟨w3, hw3⟩ : ∃ w3, w3 = w2.alloc (.cells #[.int .i64 0, .slice a2 0 cap2] 28) := ⟨_, rfl⟩
    have BL3 := Lib.hid (show Blank w0.heap.size w3 by rw [hw3]; exact BL2.out.keep (grown_alloc _ _ none) (by simp))
    have BB3 := Lib.hid (show Below w0.heap.size w0 w3 by rw [hw3]; exact BB2.out.alloc BB2.out.size _)
    have HW3 := Lib.hid hw3
    clear ho hb hw3
    obtain ⟨b0, b1, b2, b3, b4⟩ := BL3.out
    rw [hz0] at b0 b1 b2 b3 b4
    simp only [List.length_nil]
    go_upto_region 2 with fail
    rw [← HW3.out]
    go_wp2
    refine bodyPost_ret (v := .tuple #[.agg #[.int .i64 0, .slice none 0 0], .bool false]) (by simp [results, Try.results46, go_sem, b0, b1, b2, b3, b4] <;> rfl) rfl ?_
    exact HOUT.out _ BL3.out BB3.out HNO.out

end Go.Proofs.Ytcpchdnhhjhpaaa
