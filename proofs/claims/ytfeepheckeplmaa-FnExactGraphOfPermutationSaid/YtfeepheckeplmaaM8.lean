/- GraphOfPermutation. -/
import Derived.Test.YtfeepheckeplmaaM6
import Derived.Test.YtfeepheckeplmaaN2
import Derived.Test.YtfeepheckeplmaaV1
namespace Go.Proofs.Ytfeepheckeplmaa
open Go.RowKit

def permR (l : List Int) (i j : Nat) : Bool := decide (nth l j < nth l i)

def permN (l : List Int) : Int := if PermP l then (l.length : Int) else 0

def permL (l : List Int) : List Int := if PermP l then adjL l.length (symR (permR l)) else []

theorem PermP.len {l : List Int} (h : PermP l) : 1 ≤ l.length ∧ l.length ≤ 7 := ⟨h.1, (set_len h.2).1⟩

theorem permL_length (l : List Int) : (permL l).length ≤ 7 := by
  unfold permL
  split
  · rename_i h
    rw [adjL_length]
    exact h.len.2
  · simp

theorem part_step' (n : Nat) (r : Nat → Nat → Bool) (k m : Nat) (hk : k < n) (hm : m < k) (hr : r m k = true) : flipE (adjL n (partR r k m)) k m = adjL n (partR r k (m + 1)) := by
  rw [adjL_flip n _ k m hk (by omega) (by omega) (by rw [partR_comm]; exact partR_open r k m) (partR_open r k m)]
  refine adjL_congr n _ _ fun i hi j hj => ?_
  rw [partR_yes r k m i j hr hm]
  cases partR r k m i j <;> simp [Bool.or_comm]

theorem part_ok (n : Nat) (r : Nat → Nat → Bool) (k m : Nat) (h1 : 1 ≤ n) (h7 : n ≤ 7) (hk : k < n) (hm : m < k) : AddOk n (adjL n (partR r k m)) k m := by
  refine ⟨isG_adjL n _ h1 h7 (fun i _ => partR_self r k m i) (fun i j _ _ => partR_comm r k m i j), by omega, by omega, by omega, ?_⟩
  rw [Int.toNat_natCast, Int.toNat_natCast]
  unfold edB
  rw [adjL_bit n _ k m hk (by omega), partR_comm, partR_open r k m]
  rfl

theorem enters_perm : Enters 74 := fun args W => by rfl

set_option maxHeartbeats 1000000 in
set_option maxRecDepth 100000 in
theorem rule_perm (q : Nat) (v : Value) (l : List Int) (W0 : World) (hk : Boxed W0 q 22 v) (hI : Ints W0 v l) (hl : l.length ≤ 7) :
    Rule 74 #[.pointer (some ⟨q, 0, none⟩)] l.length (permR l) W0 := by
  intro W i j hij hj hbel
  have k0 := (hk.kept (below_grown hbel) (by simp)).cell
  obtain ⟨b, off, cap, rfl, _, hmx, hb, hcell⟩ := (hI.on hbel).pos (by omega)
  have e0 := hcell i (by omega)
  have e1 := hcell j hj
  have HP := Lib.hid (show decide (nth l j < nth l i) = permR l i j from rfl)
  obtain ⟨x, hx⟩ : ∃ x, x = nth l i := ⟨_, rfl⟩
  obtain ⟨y, hy⟩ : ∃ y, y = nth l j := ⟨_, rfl⟩
  rw [← hx, ← hy] at HP
  rw [← hx] at e0
  rw [← hy] at e1
  obtain ⟨m, hm⟩ : ∃ m, m = l.length := ⟨_, rfl⟩
  rw [← hm] at k0 hj hl
  unfold maxLen at hmx
  clear hI hbel hk hcell hx hy hm
  show Calls Try.prog 74 #[.int .i64 i, .int .i64 j, .pointer (some ⟨q, 0, none⟩)] W _
  go_enter Try.func74, Try.ntmps74
  go_wp2
  go_quiet (fail)
  go_wp2
  go_ret
  exact ⟨by rw [HP.out]; rfl, below_drewN (Below.refl _ _) _⟩

set_option maxHeartbeats 2000000 in
set_option maxRecDepth 100000 in
theorem implGPerm (v : Value) (l : List Int) (w : World) (h : Ints w v l) (hl : l.length ≤ 1048576) :
    Calls Try.prog 43 #[v] w (GetsGB w.heap.size w (permN l) (permL l) (decide (PermP l))) := by
  obtain ⟨a, cap, rfl, -, -⟩ := h.form
  have hmf : ∀ (fn : Fn) (first cap : Array Value) (w : World), (Instr.makeFunc fn first cap).run Try.prog w = .ok (.func fn first cap) w := fun _ _ _ _ => rfl
  obtain ⟨w1, hw1⟩ : ∃ w1, w1 = (w.alloc (.cells #[.slice a l.length cap] 22)).alloc (.cells #[.int .i64 0, .slice none 0 0] 27) := ⟨_, rfl⟩
  have BL1 := Lib.hid (show Blank (w.heap.size + 1) w1 by rw [hw1]; have := Blank.new (w.alloc (.cells #[.slice a l.length cap] 22)) 27; simpa using this)
  have BB1 := Lib.hid (show Below w.heap.size w w1 by rw [hw1]; exact ((Below.refl _ w).alloc (Nat.le_refl _) _).alloc (by simp) _)
  have BK1 := Lib.hid (show Boxed w1 w.heap.size 22 (.slice a l.length cap) by rw [hw1]; exact ((Boxed.new w 22 (.slice a l.length cap)).kept (grown_alloc _ _ none) (by simp)))
  have II1 := Lib.hid (show Ints w1 (.slice a l.length cap) l by rw [hw1]; exact (h.alloc _).alloc _)
  have C1 : w1.cell? ⟨w.heap.size, 0, none⟩ = some (.slice a l.length cap) := by rw [hw1]; simp [go_sem]
  have hz1 : w1.heap.size = w.heap.size + 2 := by rw [hw1]; simp
  clear h
  go_enter Try.func43, Try.ntmps43
  go_wp2_with fail
  rw [← hw1]
  clear hw1
  refine (implPerm _ l _ II1.out hl).mono ?_
  rintro e w2 ⟨r, rfl, hr, hb⟩
  have BL2 := Lib.hid (BL1.out.keep (below_grown hb) (by simp))
  have BK2 := Lib.hid (BK1.out.kept (below_grown hb) (by simp))
  have II2 := Lib.hid (II1.out.on hb)
  have BB2 := Lib.hid (BB1.out.trans (hb.mono BB1.out.size))
  have HR := Lib.hid hr
  clear hb hr BL1 BK1 II1 BB1 C1
  have C2 := BK2.out.cell
  cases r with
  | false =>
    have hno : ¬ PermP l := fun h => absurd (HR.out.2 h) (by decide)
    have HN := Lib.hid (show permN l = 0 ∧ permL l = [] ∧ decide (PermP l) = false by unfold permN permL; simp [hno])
    obtain ⟨b0, b1, b2, b3, b4⟩ := BL2.out
    clear hno
    go_wp2
    refine bodyPost_ret (v := .tuple #[.agg #[.int .i64 0, .slice none 0 0], .bool false]) (by simp [results, Try.results43, go_sem, b0, b1, b2, b3]) rfl ?_
    rw [HN.out.1, HN.out.2.1, HN.out.2.2]
    refine ⟨_, rfl, ⟨inI64_nil, World.ownsRow_nil _ _ _ _⟩, ?_⟩
    exact (BB2.out.setCell (by simp) _).setCell (by simp) _
  | true =>
    have hyes : PermP l := HR.out.1 rfl
    have HN := Lib.hid (show permN l = (l.length : Int) ∧ permL l = adjL l.length (symR (permR l)) ∧ decide (PermP l) = true by unfold permN permL; simp [hyes])
    obtain ⟨hl1, hl7⟩ := hyes.len
    clear hyes
    go_wp2_with fail
    refine (graphWith_any 74 #[.pointer (some ⟨w.heap.size, 0, none⟩)] l.length (permR l) _ hl1 hl7 enters_perm (rule_perm w.heap.size _ l _ BK2.out II2.out hl7)).mono ?_
    rintro e w3 ⟨v3, rfl, ho, hb⟩
    have BL3 := BL2.out.keep (below_grown hb) (by simp)
    have BB3 := Lib.hid (BB2.out.trans (hb.mono BB2.out.size))
    have hz2 := BL2.out.2.2.2.2
    obtain ⟨a3, cap3, rfl, -, -⟩ := ho.ints.form
    have HO := Lib.hid ho
    have hs2 := Lib.hid BB2.out.size
    clear ho hb hmf C2
    obtain ⟨b0, b1, b2, b3, b4⟩ := BL3
    go_wp2
    refine bodyPost_ret (v := .tuple #[.agg #[.int .i64 l.length, .slice a3 _ cap3], .bool true]) (by simp [results, Try.results43, go_sem, b0, b1, b2, b3]; rfl) rfl ?_
    rw [HN.out.1, HN.out.2.1, HN.out.2.2]
    refine ⟨_, rfl, ?_, ?_⟩
    · exact ((HO.out.setBelow (a := ⟨w.heap.size + 1, 0, none⟩) (by show w.heap.size + 1 < w2.heap.size; omega) _).setBelow (a := ⟨w.heap.size + 1, 1, none⟩) (by show w.heap.size + 1 < w2.heap.size; omega) _).mono hs2.out
    · exact (BB3.out.setCell (by simp) _).setCell (by simp) _

/-- The graph that is being made, in its box q. -/
def CurQ (w : World) (q : Nat) (n : Nat) (L : List Int) (u : Value) (wr : World) : Prop :=
  OwnI (w.heap.size + 1) wr u L ∧ BoxF q n u wr ∧ Blank w.heap.size wr ∧ Below w.heap.size w wr ∧ (∀ k, u.ownBlock = some k → k ≠ q) ∧ w.heap.size < q

theorem CurQ.next {w wr w5 : World} {q n : Nat} {L L' : List Int} {u v5 : Value} (h : CurQ w q n L u wr) (ho : OwnI wr.heap.size w5 v5 L') (hb : Below wr.heap.size wr w5) :
    CurQ w q n L' v5 ((w5.setCell ⟨q, 0, none⟩ (.int .i64 n)).setCell ⟨q, 1, none⟩ v5) := by
  obtain ⟨-, h2, h3, h4, -, h6⟩ := h
  have hq := h2.1.2.2
  refine ⟨((ho.setBelow (a := ⟨q, 0, none⟩) hq _).setBelow (a := ⟨q, 1, none⟩) hq _).mono (by omega), (h2.keep (below_grown hb) (by simp)).set, ?_, ?_, fun k hk => ?_, h6⟩
  · exact ((h3.keep (below_grown hb) (by simp)).keep (gset _ _ _ _) (by simp; omega)).keep (gset _ _ _ _) (by simp; omega)
  · exact ((h4.trans (hb.mono h4.size)).setCell (p := ⟨q, 0, none⟩) (by show w.heap.size ≤ q; omega) _).setCell (p := ⟨q, 1, none⟩) (by show w.heap.size ≤ q; omega) _
  · have := (ho.lt k hk).1
    omega

theorem CurQ.on {w wr w' : World} {q n : Nat} {L : List Int} {u : Value} (h : CurQ w q n L u wr) (hb : Below wr.heap.size wr w') : CurQ w q n L u w' :=
  ⟨h.1.on hb, h.2.1.keep (below_grown hb) (by simp), h.2.2.1.keep (below_grown hb) (by simp), h.2.2.2.1.trans (hb.mono h.2.2.2.1.size), h.2.2.2.2⟩

theorem CurQ.init (w wr : World) (n : Nat) (r : Nat → Nat → Bool) (hn : n ≤ 7) (h1 : Blank w.heap.size wr) (h2 : Below w.heap.size w wr) :
    CurQ w (wr.heap.size + 1) n (adjL n (partR r 0 0)) (.slice (some ⟨wr.heap.size, 0, none⟩) n n) ((wr.alloc (.cells (madeCells #[.int .i64 0] n) 3)).alloc (.cells #[.int .i64 n, .slice (some ⟨wr.heap.size, 0, none⟩) n n] 27)) := by
  have hlt := h1.2.2.2.2
  have hz : ∀ i, i < (adjL n (partR r 0 0)).length → (fun _ : Nat => Value.int .i64 0) i = .int .i64 (nth (adjL n (partR r 0 0)) i) := fun i hi => by
    rw [adjL_length] at hi
    rw [adjL_nth n _ i hi, rowV_congr _ _ n (fun j _ => partR_none r i j), rowV_none]
  have hrow := World.rowIs_made wr (.int .i64 0) (adjL n (partR r 0 0)).length 3
  have hown := OwnI.of_row (B := w.heap.size + 1) (l := adjL n (partR r 0 0)) hrow hz (by omega) (adjL_in n _ hn) (by rw [adjL_length]; unfold maxLen; omega)
  simp only [adjL_length] at hown
  refine ⟨hown.alloc _, ⟨?_, by simp [go_sem], by simp [go_sem]⟩, ?_, ?_, fun k hk => ?_, by omega⟩
  · have := BoxG.new (wr.alloc (.cells (madeCells #[.int .i64 0] n) 3)) 27 n (.slice (some ⟨wr.heap.size, 0, none⟩) n n) ⟨_, _, _, rfl⟩
    simpa using this
  · exact (h1.keep (grown_alloc _ _ none) (by simp)).keep (grown_alloc _ _ none) (by simp)
  · exact (h2.alloc h2.size _).alloc (by have := h2.size; simp; omega) _
  · have : wr.heap.size = k := by simpa [Value.ownBlock] using hk
    omega

set_option maxHeartbeats 4000000 in
set_option maxRecDepth 100000 in
theorem specGPerm (v : Value) (l : List Int) (w : World) (h : Ints w v l) (hl : l.length ≤ 1048576) :
    Calls Try.prog 42 #[v] w (GetsGB w.heap.size w (permN l) (permL l) (decide (PermP l))) := by
  obtain ⟨a, cap, rfl, -, -⟩ := h.form
  obtain ⟨w1, hw1⟩ : ∃ w1, w1 = w.alloc (.cells #[.int .i64 0, .slice none 0 0] 27) := ⟨_, rfl⟩
  have BL1 := Lib.hid (show Blank w.heap.size w1 by rw [hw1]; exact Blank.new w _)
  have BB1 := Lib.hid (show Below w.heap.size w w1 by rw [hw1]; exact (Below.refl _ w).alloc (Nat.le_refl _) _)
  have II := Lib.hid h
  clear h
  go_enter Try.func42, Try.ntmps42
  go_wp2_with fail
  rw [← hw1]
  clear hw1
  refine (specPerm _ l _ (II.out.on BB1.out) hl).mono ?_
  rintro e w2 ⟨r, rfl, hr, hb⟩
  have BL2 := Lib.hid (BL1.out.keep (below_grown hb) (by simp))
  have BB2 := Lib.hid (BB1.out.trans (hb.mono BB1.out.size))
  have HR := Lib.hid hr
  clear hb hr BL1 BB1
  cases r with
  | false =>
    have hno : ¬ PermP l := fun h => absurd (HR.out.2 h) (by decide)
    have HN := Lib.hid (show permN l = 0 ∧ permL l = [] ∧ decide (PermP l) = false by unfold permN permL; simp [hno])
    obtain ⟨b0, b1, b2, b3, b4⟩ := BL2.out
    clear hno
    go_wp2
    refine bodyPost_ret (v := .tuple #[.agg #[.int .i64 0, .slice none 0 0], .bool false]) (by simp [results, Try.results42, go_sem, b0, b1, b2, b3]) rfl ?_
    rw [HN.out.1, HN.out.2.1, HN.out.2.2]
    refine ⟨_, rfl, ⟨inI64_nil, World.ownsRow_nil _ _ _ _⟩, ?_⟩
    exact (BB2.out.setCell (by simp) _).setCell (by simp) _
  | true =>
    have hyes : PermP l := HR.out.1 rfl
    have HN := Lib.hid (show permN l = (l.length : Int) ∧ permL l = adjL l.length (symR (permR l)) ∧ decide (PermP l) = true by unfold permN permL; simp [hyes])
    obtain ⟨hl1, hl7⟩ := hyes.len
    clear hyes HR hl
    obtain ⟨n, hn⟩ : ∃ n, n = l.length := ⟨_, rfl⟩
    have HNL := Lib.hid hn
    rw [← hn] at hl1 hl7 ⊢
    have hmk := fun W : World => run_make_row' (P := Try.prog) 22 3 (.int .i64 0) 8 Try.underlying22 infoInt rfl .i64 .i64 n (by omega) (by omega) W
    clear hn
    go_wp2
    clear hmk
    go_loopw [5] (fun i wr => ∃ (k : Nat) (u : Value), k ≤ n ∧ i = .int .i64 k ∧ CurQ w (w2.heap.size + 1) n (adjL n (partR (permR l) k 0)) u wr) (fun i _ => n - (intOf i).toNat)
    case atStart => exact ⟨0, _, by omega, rfl, CurQ.init w w2 n _ hl7 BL2.out BB2.out⟩
    case round =>
      obtain ⟨i, u, hi, rfl, hC⟩ := hrel
      by_cases hin : i < n
      · have HC0 := Lib.hid hC
        clear hC
        go_wp2
        go_loopw [6] (fun x wr => ∃ (m : Nat) (u : Value), m ≤ i ∧ x = .int .i64 m ∧ CurQ w (w2.heap.size + 1) n (adjL n (partR (permR l) i m)) u wr) (fun x _ => i - (intOf x).toNat)
        case atStart => exact ⟨0, u, by omega, rfl, HC0.out⟩
        case round =>
          clear HC0
          obtain ⟨j, u, hji, rfl, hC⟩ := hrel
          have HC := Lib.hid hC
          clear hC
          by_cases hj7 : j < i
          · obtain ⟨b', off', cap', hv, _, hmx, hb', hcell⟩ := (II.out.on HC.out.2.2.2.1).pos (by rw [← HNL.out]; omega)
            simp only [Value.slice.injEq] at hv
            obtain ⟨rfl, -, rfl⟩ := hv
            have e0 := hcell i (by rw [← HNL.out]; omega)
            have e1 := hcell j (by rw [← HNL.out]; omega)
            obtain ⟨x, hx⟩ : ∃ x, x = nth l i := ⟨_, rfl⟩
            obtain ⟨y, hy⟩ : ∃ y, y = nth l j := ⟨_, rfl⟩
            rw [← hx] at e0
            rw [← hy] at e1
            unfold maxLen at hmx
            obtain ⟨⟨c0, c1, cz⟩, c2, c3⟩ := HC.out.2.1
            have HXY := Lib.hid (And.intro hx hy)
            clear hcell hx hy
            by_cases hr : x < y
            · have q1 : decide (x < y) = true := by simp [hr]
              have HRT := Lib.hid (show permR l j i = true by unfold permR; rw [← HXY.out.1, ← HXY.out.2]; exact q1)
              have HY := Lib.hid (part_step' n (permR l) i j hin hj7 HRT.out)
              have HOK := Lib.hid (part_ok n (permR l) i j hl1 hl7 hin hj7)
              clear hr
              go_wp2
              go_quiet (fail)
              go_wp2_with fail
              refine (specAddEdge_yes n _ (adjL n (partR (permR l) i j)) i j _ (HC.out.1.ints.on (below_drewN (Below.refl _ _) _)) (by rw [adjL_length]; omega) HC.out.1.nilform HOK.out).mono ?_
              rintro e w5 ⟨v5, rfl, ho, hb⟩
              rw [Int.toNat_natCast, Int.toNat_natCast, HY.out] at ho
              replace hb := (below_drewN (Below.refl wr.heap.size wr) _).trans hb
              obtain ⟨a5, cap5, rfl, -, -⟩ := ho.ints.form
              have HC5 := Lib.hid (HC.out.next ho hb)
              obtain ⟨⟨g0, g1, gz⟩, g2, g3⟩ := HC.out.2.1.keep (below_grown hb) (by simp)
              clear ho hb c0 c1 cz c2 c3 e0 e1
              go_wp2
              go_roundw
              case rel => exact ⟨j + 1, _, by omega, by go_num, HC5.out⟩
              case measure => simp [intOf]; omega
            · have q1 : decide (x < y) = false := by simp; omega
              have HRT := Lib.hid (show permR l j i = false by unfold permR; rw [← HXY.out.1, ← HXY.out.2]; exact q1)
              have HY := Lib.hid (part_same n (permR l) i j hj7 HRT.out)
              clear hr c0 c1 cz c2 c3
              go_wp2
              go_quiet (fail)
              go_wp2
              go_roundw
              case rel => exact ⟨j + 1, u, by omega, by go_num, by rw [← HY.out]; exact HC.out.on (below_drewN (Below.refl _ _) _)⟩
              case measure => simp [intOf]; omega
          · obtain rfl : j = i := by omega
            have HY := Lib.hid (show adjL n (partR (permR l) (j + 1) 0) = adjL n (partR (permR l) j j) from adjL_congr n _ _ fun a _ b _ => (partR_next (permR l) j a b).symm)
            go_wp2
            go_roundw
            case rel => exact ⟨j + 1, u, by omega, by go_num, by rw [HY.out]; exact HC.out⟩
            case measure => simp [intOf]; omega
      · obtain rfl : i = n := by omega
        have hall : adjL i (symR (permR l)) = adjL i (partR (permR l) i 0) := adjL_congr i _ _ fun a ha b hb => (partR_all (permR l) i a b ha hb).symm
        have HALL := Lib.hid hall
        have hsz := Lib.hid BB2.out.size
        obtain ⟨hown, ⟨⟨c0, c1, cz⟩, c2, c3⟩, ⟨b0, b1, b2, b3, b4⟩, hbel, -⟩ := hC
        obtain ⟨au, capu, rfl, -, -⟩ := hown.ints.form
        have HO := Lib.hid hown
        have HB := Lib.hid hbel
        clear hown hbel hall
        go_wp2
        refine bodyPost_ret (v := .tuple #[.agg #[.int .i64 i, .slice au _ capu], .bool true]) (by simp [results, Try.results42, go_sem, b0, b1, b2, b3]; rfl) rfl ?_
        rw [HN.out.1, HN.out.2.1, HN.out.2.2, ← HNL.out, HALL.out]
        refine ⟨_, rfl, ?_, ?_⟩
        · exact ((HO.out.setBelow (a := ⟨w.heap.size, 0, none⟩) (by simp) _).setBelow (a := ⟨w.heap.size, 1, none⟩) (by simp) _).mono (by omega)
        · exact (HB.out.setCell (p := ⟨w.heap.size, 0, none⟩) (by simp) _).setCell (p := ⟨w.heap.size, 1, none⟩) (by simp) _

end Go.Proofs.Ytfeepheckeplmaa
