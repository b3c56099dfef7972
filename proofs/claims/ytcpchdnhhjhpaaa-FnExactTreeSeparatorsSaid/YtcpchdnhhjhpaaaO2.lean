/- impl.orderByMark: the order in which the vertex with the greatest mark comes next. -/
import Derived.Test.YtcpchdnhhjhpaaaZ1
import Derived.Test.YtcpchdnhhjhpaaaM14
import Derived.Test.YtcpchdnhhjhpaaaZ2
import Derived.Test.YtcpchdnhhjhpaaaQi
import Derived.Test.YtcpchdnhhjhpaaaT3
import Derived.Test.YtcpchdnhhjhpaaaR
import Derived.Test.YtcpchdnhhjhpaaaGl
import Derived.Test.YtcpchdnhhjhpaaaG8
import Derived.Test.YtcpchdnhhjhpaaaS1
import Derived.Maps.AppendAt
import Derived.Sort.BigQuietIn
import Derived.Sort.CutIn
namespace Go.Proofs.Ytcpchdnhhjhpaaa
set_option linter.unusedVariables false
set_option linter.unusedSimpArgs false
open Go.RowKit Go.Shelf
attribute [local go_sem] Oper.semAt_some

/-- The order by a mark, if the beginning is a vertex of a graph. -/
def ordR (mk : List Int → Nat → Nat) (n : Int) (lg : List Int) (start : Int) : Option (List Int) :=
  if IsG n lg ∧ 0 ≤ start ∧ start < n then some (ordM mk 7 [start] (2 ^ lg.length - 1 - 2 ^ start.toNat)) else none

theorem ordM_len (mk : List Int → Nat → Nat) : ∀ (f : Nat) (L : List Int) (X : Nat), (ordM mk f L X).length ≤ L.length + f
  | 0, L, X => Nat.le_refl _
  | f + 1, L, X => by
    unfold ordM
    split
    · omega
    · have := ordM_len mk f (L ++ [(nextM (mk L) X : Int)]) (X - 2 ^ nextM (mk L) X)
      simp at this ⊢
      omega

theorem ordR_len (mk : List Int → Nat → Nat) (n : Int) (lg : List Int) (start : Int) : (outL (ordR mk n lg start)).length ≤ 8 := by
  unfold ordR
  split
  · exact ordM_len mk 7 _ _
  · simp [outL]

/-- What the mark that is handed in answers. -/
def RuleM (f : FuncId) (cp : Array Value) (n : Int) (v : Value) (lg : List Int) (mk : List Int → Nat → Nat) : Prop :=
  ∀ W (L : List Int) (u : Value) (x : Nat), Ints W u L → Verts lg L → L.length ≤ 7 → x < lg.length → Ints W v lg → Calls Try.prog f (#[.agg #[.int .i64 n, v], u, .int .i64 x] ++ cp) W (SaysN (mk L x : Nat) W)

set_option maxHeartbeats 4000000 in
set_option maxRecDepth 100000 in
theorem implCardMark (n : Int) (v vl : Value) (lg l : List Int) (k : Nat) (w : World) (h : Ints w v lg) (hl : Ints w vl l) (hg : IsG n lg) (hk : k < lg.length) (ho : Verts lg l) (hlen : l.length ≤ 7) :
    Calls Try.prog 75 #[.agg #[.int .i64 n, v], vl, .int .i64 k] w (SaysN (cardN lg l k l.length : Nat) w) := by
  have h9 := h
  obtain ⟨bg, offg, cap, rfl, -, hmg, hbg, hcg⟩ := h.pos (by omega)
  obtain ⟨al, capl, rfl, hcl, hml⟩ := hl.form
  have HA := argG' (T := 28) (n := n) h9
  have HL := Lib.hid hl
  have HO := Lib.hid ho
  have hm7 : lg.length ≤ 7 := by have := hg.2.1; have := hg.2.2.1; omega
  obtain ⟨X, hX⟩ : ∃ X, X = nth lg k := ⟨_, rfl⟩
  have hcg1 := hcg k hk
  rw [← hX] at hcg1
  have HCG := Lib.hid hcg1
  have HXX := Lib.hid hX
  unfold maxLen at hml hmg
  clear h hl ho h9 hg hcg hX hcg1
  go_enter Try.func75, Try.ntmps75
  go_wp2
  go_loopw [7, 12] (fun s x wr => ∃ i P : Nat, i ≤ l.length ∧ P ≤ i ∧ x = .int .i64 i ∧ s = .int .i64 P ∧ Hid (P = cardN lg l k i) ∧ Below (w.heap.size + 1) (w.alloc (.cells #[.int .i64 n, .slice (some ⟨bg, offg, none⟩) lg.length cap] 28)) wr) (fun _ x _ => l.length - (intOf x).toNat)
  case atStart => exact ⟨0, 0, by omega, by omega, rfl, rfl, rfl, Below.refl _ _⟩
  case round =>
    obtain ⟨i, P, hi, hPi, rfl, rfl, HJ, hbel⟩ := hrel
    have HBL := Lib.hid hbel
    clear hbel
    obtain ⟨c0, c1, cI, cB, hz⟩ := HA.out _ HBL.out
    have HCB := Lib.hid cB
    clear cI cB
    by_cases hlt : i < l.length
    · obtain ⟨b2, off2, capl', hv, hc2, hmx2, hbk2, hcell2⟩ := HL.out.pos (by omega)
      simp only [Value.slice.injEq] at hv
      obtain ⟨rfl, -, rfl⟩ := hv
      obtain ⟨hki, hki2⟩ := HO.out i hlt
      have e1 := (HCB.out.cell (p := ⟨b2, off2 + i, none⟩) hbk2).trans (hcell2 i hlt)
      rw [hki] at e1
      have e2 := (HCB.out.cell (p := ⟨bg, offg + k, none⟩) hbg).trans HCG.out
      obtain ⟨x, hx⟩ : ∃ x, x = kl l i := ⟨_, rfl⟩
      rw [← hx] at e1 hki2
      obtain ⟨B, hB⟩ : ∃ B, B = (edB lg k x).toNat := ⟨_, rfl⟩
      have hB2 : B < 2 := by rw [hB]; cases edB lg k x <;> decide
      have e3 : bits .and .i64 (X / 2 ^ x) 1 = (B : Int) := by
        rw [and_one_bit, hB]
        unfold edB
        rw [← HXX.out]
        rcases bitAt_two X x with h | h <;> rw [h] <;> rfl
      have HT : Hid (P + B = cardN lg l k (i + 1)) := by
        show P + B = cardN lg l k i + (edB lg k (kl l i)).toNat
        rw [← HJ.out, ← hx, ← hB]
      clear hcell2 hki hx hB
      go_wp2
      go_roundw
      case rel => exact ⟨i + 1, P + B, by omega, by omega, by go_num, by go_num, HT.out, HBL.out⟩
      case measure => simp [intOf]; omega
    · obtain rfl : i = l.length := by omega
      have HQ := Lib.hid (congrArg (fun z : Nat => (z : Int)) HJ.out)
      go_wp2
      go_ret
      exact ⟨by rw [← HQ.out]; rfl, HCB.out⟩

theorem ruleCard (n : Int) (v : Value) (lg : List Int) (hg : IsG n lg) : RuleM 75 #[] n v lg (fun L x => cardN lg L x L.length) :=
  fun W L u x hI hV hL hx hg' => implCardMark n v u lg L x W hg' hI hg hx hV hL

theorem ruleLex (n : Int) (v : Value) (lg : List Int) (hg : IsG n lg) : RuleM 73 #[] n v lg (fun L x => lexN lg L x L.length) :=
  fun W L u x hI hV hL hx hg' => implLexMark n v u lg L x W hg' hI hg hx hV hL

theorem OwnI.single {B : Nat} {w : World} {x : Int} (hB : B ≤ w.heap.size) (h0 : -9223372036854775808 ≤ x) (h1 : x ≤ 9223372036854775807) : OwnI B (w.alloc (.cells #[.int .i64 x] 3)) (.slice (some ⟨w.heap.size, 0, none⟩) 1 1) [x] :=
  ⟨inI64_one h0 h1, by simp [iv], .inr ⟨w.heap.size, 1, #[.int .i64 x], rfl, hB, by show (w.heap.push _)[w.heap.size]? = _; rw [Array.getElem?_push_size], by simp, by unfold maxLen; omega, by simp, by simp [iv]⟩⟩

theorem one_full {S N : Nat} (h : S < N) : Sub (2 ^ S) (2 ^ N - 1) := fun i hi => by
  rw [Nat.testBit_two_pow] at hi
  obtain rfl := of_decide_eq_true hi
  rw [Nat.testBit_two_pow_sub_one]
  simpa using h

theorem shut_own {B : Nat} : ∀ (Ds : List Nat) (W : World) {C : Nat} {v : Value} {l : List Int}, MarksOk B Ds W → OwnI C W v l → OwnI C (shut W Ds) v l := by
  intro Ds
  induction Ds with
  | nil => exact fun W _ _ _ _ h => h
  | cons D Ds ih =>
    intro W C v l hm h
    have hD := hm.2 D (by simp)
    refine ih _ ⟨(List.nodup_cons.1 hm.1).2, fun E hE => ⟨(hm.2 E (by simp [hE])).1, ?_⟩⟩ ⟨h.1, ownsRow_putObj h.2 (.deferred none) hD.2 rfl⟩
    have hne : E ≠ D := fun e => (List.nodup_cons.1 hm.1).1 (e ▸ hE)
    exact (World.putObj_heap_other hne).trans (hm.2 E (by simp [hE])).2

/-- What the two boxes hold behind the vertices that have come. -/
def nextV : Option Nat → Int
  | none => 0
  | some b => b

def greatV (mk : Nat → Nat) : Option Nat → Int
  | none => -1
  | some b => mk b

theorem Only.thenG {lo hi B : Nat} {w1 w2 w3 : World} {row : Option Nat} (h : Only lo hi w1 w2) (hg : w2.grownBy w3 row) (hB : w1.heap.size ≤ B) (hr : ∀ r, row = some r → B ≤ r) : Only lo hi w1 w3 :=
  ⟨hg.os.trans h.os, hg.tape.trans h.tape, hg.output.trans h.output, Nat.le_trans h.size hg.size, fun k hk hn => (hg.block k (Nat.lt_of_lt_of_le hk h.size) (fun e => by have := hr k e.symm; omega)).trans (h.block k hk hn)⟩

theorem Only.setC {lo hi b j : Nat} {w1 w2 : World} (h : Only lo hi w1 w2) (h1 : lo ≤ b) (h2 : b < hi) (v : Value) : Only lo hi w1 (w2.setCell ⟨b, j, none⟩ v) :=
  ⟨h.os, h.tape, h.output, by simpa [World.setCell] using h.size, fun k hk hn => (Below.heap_setCell _ _ _ _ (fun e => by have : k = b := e; omega)).trans (h.block k hk hn)⟩

theorem Boxed.keepO {q : Nat} {T : TypeId} {v : Value} {w w' : World} {lo hi : Nat} (h : Boxed w q T v) (hg : Only lo hi w w') (hr : q < lo ∨ hi ≤ q) : Boxed w' q T v :=
  (hg.block q h.lt (by omega)).trans h

def OrdI (mk : Nat → Nat) (a : Nat) (X : Nat) (w2 : World) (pre : List (Mem (X : Int))) (W : World) : Prop :=
  Boxed W a 3 (.int .i64 (nextV (pickL mk (pre.map (·.1))))) ∧ Boxed W (a + 1) 3 (.int .i64 (greatV mk (pickL mk (pre.map (·.1))))) ∧ Only a (a + 2) w2 W

theorem ordI_own {mk : Nat → Nat} {a X : Nat} {w2 : World} (ha : a + 1 < w2.heap.size) : OwnFrom w2.heap.size (OrdI mk a X w2) := fun s A B row hs hg hr =>
  ⟨hs.1.kept hg (fun e => by have := (hr a e.symm).1; omega), hs.2.1.kept hg (fun e => by have := (hr (a + 1) e.symm).1; omega), hs.2.2.thenG hg (Nat.le_refl _) fun r e => (hr r e).1⟩

set_option maxHeartbeats 4000000 in
set_option maxRecDepth 100000 in
theorem orderBy_any (f : FuncId) (cp : Array Value) (he : Enters f) (mk : List Int → Nat → Nat) (n : Int) (v : Value) (lg : List Int) (start : Int) (w : World) (h : Ints w v lg) (hr : IsG n lg → RuleM f cp n v lg mk) :
    Calls Try.prog 72 #[.agg #[.int .i64 n, v], .int .i64 start, .func (.func f) #[] cp] w (GetsLB w.heap.size w (ordR mk n lg start)) := by
  obtain ⟨i0, hi, hi0, hi1, hi2⟩ := info_parts infoInt
  obtain ⟨a, cap, rfl, -, -⟩ := h.form
  unfold Enters at he
  have HI := Lib.hid h
  have HRU := Lib.hid hr
  clear h hr
  obtain ⟨R, hR⟩ : ∃ R, R = ordR mk n lg start := ⟨_, rfl⟩
  have HR := Lib.hid hR
  rw [← hR]
  clear hR
  refine (callsIn_wide (n := 6)).1 ?_
  refine callsIn_of_wp_marks Try.func72 rfl trivial ?_ rfl
  simp only [Try.ntmps72, List.size_toArray, List.length_cons, List.length_nil, Nat.reduceAdd, Nat.reduceSub, Array.replicate_succ, Array.replicate_zero, List.push_toArray, List.append_toArray, List.nil_append, List.cons_append]
  obtain ⟨w0, hw0⟩ : ∃ w0, w0 = (w.alloc (.cells #[.int .i64 n, .slice a lg.length cap] 28)).alloc (.cells #[.func (.func f) #[] cp] 123) := ⟨_, rfl⟩
  have F0 := Lib.hid (show Below w.heap.size w w0 by rw [hw0]; exact ((Below.refl _ w).alloc (Nat.le_refl _) _).alloc (by simp) _)
  have BX0 := Lib.hid (show BoxG w.heap.size n (.slice a lg.length cap) w0 by rw [hw0]; exact (BoxG.new w 28 n (.slice a lg.length cap) ⟨_, _, _, rfl⟩).keep (grown_alloc _ _ none) (by simp))
  have BF0 := Lib.hid (show Boxed w0 (w.heap.size + 1) 123 (.func (.func f) #[] cp) by
    rw [hw0]
    have := Boxed.new (w.alloc (.cells #[.int .i64 n, .slice a lg.length cap] 28)) 123 (.func (.func f) #[] cp)
    simpa using this)
  have hz0 : w0.heap.size = w.heap.size + 2 := by rw [hw0]; simp
  obtain ⟨c0, c1, cz⟩ := BX0.out
  gi_upto_region 1 with fail
  rw [← hw0]
  clear hw0
  gi_wp2_with fail
  refine ⟨trivial, (callsIn_wide.2 (implIsG_any n _ lg _ (HI.out.on F0.out))).mono ?_⟩
  rintro e w1 ⟨r, rfl, hr, hb⟩
  have HRG := Lib.hid hr
  have F1 := Lib.hid (F0.out.trans (hb.mono F0.out.size))
  have BX1 := Lib.hid (BX0.out.keep (below_grown hb) (by simp))
  have BF1 := Lib.hid (show Boxed w1 (w.heap.size + 1) 123 (.func (.func f) #[] cp) from (hb.block _ (by omega)).trans BF0.out)
  have hz1 : w.heap.size + 2 ≤ w1.heap.size := by have := hb.size; omega
  clear hr hb c0 c1 cz BX0 BF0 hz0
  obtain ⟨c0, c1, cz⟩ := BX1.out
  cases r with
  | false =>
    have HN := Lib.hid (show R = none by rw [HR.out]; unfold ordR; rw [if_neg (fun h => absurd (HRG.out.2 h.1) (by decide))])
    gi_wp2
    refine ⟨trivial, ?_⟩
    gi_wp2
    refine ⟨_, by simp [results, Try.f72, go_sem]; rfl, ?_⟩
    rw [HN.out]
    exact ⟨_, rfl, ⟨inI64_nil, World.ownsRow_nil _ _ _ _⟩, F1.out⟩
  | true =>
    have HG := Lib.hid (HRG.out.1 (by first | rfl | trivial))
    by_cases hs : 0 ≤ start ∧ start < n
    · gi_wp2_with fail
      refine ⟨trivial, (callsIn_wide.2 (hasVertex_yes n _ lg start _ (HI.out.on F1.out) hs.1 hs.2)).mono ?_⟩
      rintro e w2 ⟨rfl, hb⟩
      have F2 := Lib.hid (F1.out.trans (hb.mono F1.out.size))
      have BX2 := Lib.hid (BX1.out.keep (below_grown hb) (by simp))
      have BF2 := Lib.hid (show Boxed w2 (w.heap.size + 1) 123 (.func (.func f) #[] cp) from (hb.block _ (by omega)).trans BF1.out)
      have hz2 : w.heap.size + 2 ≤ w2.heap.size := by have := hb.size; omega
      have hn7 := HG.out.2.1
      obtain ⟨S, rfl⟩ : ∃ S : Nat, start = (S : Int) := ⟨start.toNat, by omega⟩
      have hSl : S < lg.length := by have := HG.out.2.2.1; omega
      have hl7 : lg.length ≤ 7 := by have := HG.out.2.2.1; omega
      have hRE := Lib.hid (show R = some (ordM mk 7 [(S : Int)] (2 ^ lg.length - 1 - 2 ^ S)) by rw [HR.out]; unfold ordR; rw [if_pos ⟨HG.out, hs⟩, Int.toNat_natCast])
      obtain ⟨p, hp⟩ : ∃ p, p = w2.heap.size + 1 := ⟨_, rfl⟩
      obtain ⟨w3, hw3⟩ : ∃ w3, w3 = (w2.alloc (.cells #[.int .i64 S] 3)).alloc (.cells #[.slice (some ⟨w2.heap.size, 0, none⟩) 1 1] 22) := ⟨_, rfl⟩
      have hb3 : Below w2.heap.size w2 w3 := by rw [hw3]; exact ((Below.refl _ w2).alloc (Nat.le_refl _) _).alloc (by simp) _
      have F3 := Lib.hid (F2.out.trans (hb3.mono F2.out.size))
      have BX3 := Lib.hid (BX2.out.keep (below_grown hb3) (by simp))
      have BF3 := Lib.hid (show Boxed w3 (w.heap.size + 1) 123 (.func (.func f) #[] cp) from (hb3.block _ (by omega)).trans BF2.out)
      have BO3 := Lib.hid (show Boxed w3 p 22 (.slice (some ⟨w2.heap.size, 0, none⟩) 1 1) by
        rw [hw3, hp]
        have := Boxed.new (w2.alloc (.cells #[.int .i64 S] 3)) 22 (.slice (some ⟨w2.heap.size, 0, none⟩) 1 1)
        simpa using this)
      have O3 := Lib.hid (show OwnI w2.heap.size w3 (.slice (some ⟨w2.heap.size, 0, none⟩) 1 1) [(S : Int)] by
        rw [hw3]
        exact (OwnI.single (Nat.le_refl _) (by omega) (by omega)).alloc _)
      have hz3 : w3.heap.size = p + 1 := by rw [hw3, hp]; simp
      clear hb hb3 c0 c1 cz BX1 BF1
      obtain ⟨c0, c1, cz⟩ := BX3.out
      gi_upto_region 4 with fail
      rw [← hp, ← hw3]
      clear hw3
      obtain ⟨A, hA⟩ : ∃ A : Int, A = 2 ^ n.toNat - 1 := ⟨_, rfl⟩
      obtain ⟨X0, hX0⟩ : ∃ X0 : Nat, X0 = 2 ^ lg.length - 1 - 2 ^ S := ⟨_, rfl⟩
      obtain ⟨PP, eP, hP1, hP2⟩ : ∃ P, (2 : Int) ^ S = P ∧ 1 ≤ P ∧ P ≤ 128 := ⟨_, rfl, (shl_one' S (by omega)).2.2.2.2, (shl_one' S (by omega)).2.2.2.1⟩
      have g1 : IntKind.i64.wrap (1 * PP) = PP := IntWalk.i64_in _ (by omega) |>.trans (by omega)
      have g2 : IntKind.i64.wrap PP = PP := IntWalk.i64_in _ (by omega)
      have h128 := two_le lg.length hl7
      have hS2 : 2 ^ S < 2 ^ lg.length := Nat.pow_lt_pow_right (by decide) hSl
      have hnl : n.toNat = lg.length := by have := HG.out.2.2.1; omega
      have hAN : bits .andNot .i64 A PP = (X0 : Int) := by
        have e1 : A = ((2 ^ lg.length - 1 : Nat) : Int) := by rw [hA, hnl]; have h0 := Nat.pow_pos (a := 2) (n := lg.length) (by decide); have h1 : ((2 ^ lg.length : Nat) : Int) = (2 : Int) ^ lg.length := (by push_cast; rfl); omega
        have e2 : PP = ((2 ^ S : Nat) : Int) := by rw [← eP]; push_cast; rfl
        rw [e1, e2, hX0]
        exact andNot_nat (by omega) (one_full hSl)
      have hX0l : X0 < 2 ^ lg.length := by
        have h0 := Nat.pow_pos (a := 2) (n := lg.length) (by decide)
        rw [hX0]
        exact Nat.lt_of_le_of_lt (Nat.sub_le _ _) (by omega)
      have HREL := Lib.hid (show R = some (ordM mk 7 [(S : Int)] X0) by rw [hRE.out, hX0])
      have HAL : Hid (∀ X : Since w3, Calls Try.prog 125 #[.agg #[.int .i64 n, .slice a lg.length cap]] X.val fun e w' => e = .returned (.int .i64 A) ∧ Below X.val.heap.size X.val w') := fun X => by
        rw [hA]; exact allVertices_is n _ lg X.val ((HI.out.on F3.out).on X.prop) HG.out.1 hn7
      have k0 : ∀ X : Since w3, X.val.cell? ⟨w.heap.size, 0, none⟩ = some (.int .i64 n) := fun X => (BX3.out.keep (below_grown X.prop) (by simp)).1
      have k1 : ∀ X : Since w3, X.val.cell? ⟨w.heap.size, 1, none⟩ = some (.slice a lg.length cap) := fun X => (BX3.out.keep (below_grown X.prop) (by simp)).2.1
      clear hA hX0 hS2 c0 c1 cz
      refine wpIn_region_since rfl (by kernel_rfl) (by kernel_rfl) ?_
      gi_big_quiet_step (fail)
      refine Go.BigFrame.wpQuietIn_want (fun _ _ _ _ => trivial) (by simp [Region.wanted]) ?_
      intro Kq hKq
      gi_big_quiet_op
      gi_big_quiet_call (exact since_callIn (callsIn_wide.2 (HAL.out _)))
      repeat (gi_big_quiet_step (fail))
      refine wpQuietIn_nil ?_
      intro X4
      obtain ⟨w4, hw4⟩ : ∃ w4, w4 = X4.val := ⟨_, rfl⟩
      have hb4 : Below w3.heap.size w3 w4 := by rw [hw4]; exact X4.prop
      rw [← hw4]
      have F4 := Lib.hid (F3.out.trans (hb4.mono F3.out.size))
      have BX4 := Lib.hid (BX3.out.keep (below_grown hb4) (by simp))
      have BF4 := Lib.hid (show Boxed w4 (w.heap.size + 1) 123 (.func (.func f) #[] cp) from (hb4.block _ (by omega)).trans BF3.out)
      have BO4 := Lib.hid (show Boxed w4 p 22 (.slice (some ⟨w2.heap.size, 0, none⟩) 1 1) from (hb4.block _ (by omega)).trans BO3.out)
      have O4 := Lib.hid (O3.out.on hb4)
      have hz4 : p + 1 ≤ w4.heap.size := by have := hb4.size; omega
      have HPW := Lib.hid hp
      have hpw : w.heap.size + 3 ≤ p := by omega
      clear k0 k1 hw4 hb4 hp
      gi_wp2
      refine wpIn_loop (fun a' w' => ∃ (u9 u10 u11 u12 u13 u14 u15 u16 u17 u18 u19 u20 u21 u22 u23 u24 u25 u26 u27 u28 u29 u30 u31 u32 u33 u34 u35 u36 u37 u38 u39 u40 u41 u42 u43 u44 u45 u46 u47 u48 u49 u50 u51 u52 u53 : Value) (ds : List Deferred), (∃ (X fu : Nat) (L : List Int) (u : Value) (Ds : List Nat), X < 2 ^ lg.length ∧ u9 = .int .i64 (X : Int) ∧ popN X ≤ fu ∧ L.length + fu ≤ 8 ∧ ds = markL Ds ∧ MarksOk (p + 1) Ds w' ∧ Hid (BoxG w.heap.size n (.slice a lg.length cap) w') ∧ Hid (Boxed w' (w.heap.size + 1) 123 (.func (.func f) #[] cp)) ∧ Hid (Boxed w' p 22 u) ∧ Hid (OwnI w2.heap.size w' u L ∧ ∀ k, u.ownBlock = some k → k ≠ p) ∧ Hid (Below w.heap.size w w') ∧ Hid (Verts lg L) ∧ Hid (R = some (ordM mk fu L X)) ∧ p + 1 ≤ w'.heap.size) ∧ a' = { tmps := #[.agg #[.int .i64 n, .slice a lg.length cap], .int .i64 (S : Int), .func (.func f) #[] cp, .pointer (some ⟨w.heap.size, 0, none⟩), undef, .pointer (some ⟨w.heap.size + 1, 0, none⟩), .slice none 0 0, .bool false, .pointer (some ⟨p, 0, none⟩), u9, u10, u11, u12, u13, u14, u15, u16, u17, u18, u19, u20, u21, u22, u23, u24, u25, u26, u27, u28, u29, u30, u31, u32, u33, u34, u35, u36, u37, u38, u39, u40, u41, u42, u43, u44, u45, u46, u47, u48, u49, u50, u51, u52, u53], defers := ds }) (fun a' _ => (intOf (a'.tmps.getD 9 undef)).toNat) ?atStart ?round
      case atStart =>
        (repeat apply Exists.intro)
        refine ⟨⟨X0, 7, [(S : Int)], _, [], hX0l, rfl, ?_, ?_, ?_, MarksOk.nil _ _, BX4.out, BF4.out, BO4.out, ⟨O4.out, ?_⟩, F4.out, ?_, HREL.out, hz4⟩, rfl⟩
        · unfold popN memN
          exact Nat.le_trans (List.length_filter_le _ _) (by simp)
        · simp
        · rfl
        · intro k hk
          have h1 : w2.heap.size = k := by simpa [Value.ownBlock] using hk
          have := HPW.out
          omega
        · intro i hi
          simp at hi
          subst hi
          refine ⟨by simp [nth, kl], ?_⟩
          show (nth [(S : Int)] 0).toNat < _
          simpa [nth] using hSl
      case round =>
        clear BX4 BF4 BO4 O4 F4 HREL hz4 hX0l hAN HAL
        rintro a' wr ⟨u9, u10, u11, u12, u13, u14, u15, u16, u17, u18, u19, u20, u21, u22, u23, u24, u25, u26, u27, u28, u29, u30, u31, u32, u33, u34, u35, u36, u37, u38, u39, u40, u41, u42, u43, u44, u45, u46, u47, u48, u49, u50, u51, u52, u53, ds, ⟨X, fu, L, u, Ds, hXl, rfl, hpop, hLf, rfl, hmk, HBX, HBF, HBO, HO, HF, HV, HRE, hzr⟩, rfl⟩
        have HMK := Lib.hid hmk
        clear hmk
        have hX7 : X < 128 := by omega
        by_cases hX0 : X = 0
        · subst hX0
          have HRL := Lib.hid (show R = some L by rw [HRE.out, ordM_zero])
          have co := HBO.out.cell
          gi_wp2
          refine leave_with (Ds := Ds) HMK.out ?_
          refine ⟨_, by simp [results, Try.f72, go_sem]; rfl, ?_⟩
          rw [HRL.out]
          exact ⟨_, rfl, shut_own Ds _ HMK.out (HO.out.1.mono (by have := HF.out; have := HPW.out; omega)), shut_below (by omega) Ds _ HF.out HMK.out⟩
        · have qx : ((X : Int) != 0) = true := by rw [bne_iff_ne]; omega
          have hpp := pop_pos (show 0 < X by omega) hX7
          obtain ⟨fu', rfl⟩ : ∃ k, fu = k + 1 := ⟨fu - 1, by omega⟩
          obtain ⟨n1, n2, n3, n4, n5, n6, n7⟩ := next_facts (mk L) (show 0 < X by omega) hX7
          have HNX := Lib.hid (show R = some (ordM mk fu' (L ++ [(nextM (mk L) X : Int)]) (X - 2 ^ nextM (mk L) X)) by rw [HRE.out]; conv => lhs; unfold ordM; rw [if_neg hX0])
          obtain ⟨q, hq⟩ : ∃ q, q = wr.heap.size := ⟨_, rfl⟩
          obtain ⟨w5, hw5⟩ : ∃ w5, w5 = (wr.alloc (.cells #[.int .i64 0] 3)).alloc (.cells #[.int .i64 (-1)] 3) := ⟨_, rfl⟩
          have hb5 : Below wr.heap.size wr w5 := by rw [hw5]; exact ((Below.refl _ wr).alloc (Nat.le_refl _) _).alloc (by simp) _
          have hz5 : w5.heap.size = q + 2 := by rw [hw5, hq]; simp
          have B1 := Lib.hid (show Boxed w5 q 3 (.int .i64 0) by rw [hw5, hq]; exact (Boxed.new wr 3 (.int .i64 0)).alloc _)
          have B2 := Lib.hid (show Boxed w5 (q + 1) 3 (.int .i64 (-1)) by
            rw [hw5, hq]
            have h1 := Boxed.new (wr.alloc (.cells #[.int .i64 0] 3)) 3 (.int .i64 (-1))
            rw [World.size_alloc] at h1
            exact h1)
          obtain ⟨W2, hW2⟩ : ∃ W2, W2 = w5.alloc (.cells #[.int .i64 X] 3) := ⟨_, rfl⟩
          have hb6 : Below wr.heap.size wr W2 := by rw [hW2]; exact hb5.alloc (by omega) _
          have hcB := Lib.hid (show W2.cell? ⟨q + 2, 0, none⟩ = some (.int .i64 X) by rw [hW2, ← hz5]; simp [go_sem])
          have hz6 : W2.heap.size = q + 3 := by rw [hW2]; simp [hz5]
          have B3 := Lib.hid (show Boxed W2 q 3 (.int .i64 0) by rw [hW2]; exact B1.out.alloc _)
          have B4 := Lib.hid (show Boxed W2 (q + 1) 3 (.int .i64 (-1)) by rw [hW2]; exact B2.out.alloc _)
          have K : Hid (∀ W, Only q (q + 2) W2 W → BoxG w.heap.size n (.slice a lg.length cap) W ∧ Boxed W (w.heap.size + 1) 123 (.func (.func f) #[] cp) ∧ Boxed W p 22 u ∧ OwnI w2.heap.size W u L ∧ Below w.heap.size w W ∧ MarksOk (p + 1) Ds W ∧ q + 3 ≤ W.heap.size) := fun W ho => by
            have e : ∀ k, k < q → W.heap[k]? = wr.heap[k]? := fun k hk => (ho.block k (by omega) (by omega)).trans (hb6.block k (by omega))
            have hg : wr.grownBy W none := ⟨ho.os.trans hb6.os, ho.tape.trans hb6.tape, ho.output.trans hb6.output, Nat.le_trans hb6.size ho.size, fun k hk _ => e k (by omega)⟩
            refine ⟨HBX.out.keep hg (by simp), (e _ (by omega)).trans HBF.out, (e _ (by omega)).trans HBO.out, HO.out.1.block fun k hk => e k (by have := (HO.out.1.lt k hk).2; omega), HF.out.grown hg HF.out.size (fun k hk => by simp at hk), HMK.out.grown hg, by have := ho.size; omega⟩
          clear hb5 hb6
          gi_upto_region 7 with fail
          rw [← hw5, ← hq]
          have HQQ := Lib.hid hq
          clear hw5 hq
          gi_wp2_with fail
          refine ⟨trivial, (callsIn_wide.2 (verticesIn_is X _)).mono ?_⟩
          rintro e w6 ⟨rfl, hw6⟩
          obtain rfl : w6 = W2 := by rw [hW2]; exact hw6.symm
          rw [hz5]
          clear hw6 hW2
          gi_wp2_with fail
          refine wpIn_rangeFunc_ownF (w0 := w6) rfl (by omega) (gf := 131) (lb := #[.pointer (some ⟨q + 2, 0, none⟩)]) rfl trivial (enters_of Try.func131 (by kernel_rfl) rfl)
            (vin_stopsC Fence.wide 5 trivial rfl (by omega) (q + 2) X w6 (by omega) hcB.out) keepC_t (keepC_b (by omega)) (Below.refl _ _) (fun _ => rfl)
            (OrdI (mk L) q X w6) (fun _ _ _ => False) (ordI_own (by omega)) (fun _ _ _ _ _ hs _ _ => hs) ⟨B3.out, B4.out, Only.refl _ _ _⟩
            (fun y => { tmps := #[.agg #[.int .i64 n, .slice a lg.length cap], .int .i64 (S : Int), .func (.func f) #[] cp, .pointer (some ⟨w.heap.size, 0, none⟩), undef, .pointer (some ⟨w.heap.size + 1, 0, none⟩), .slice none 0 0, .bool false, .pointer (some ⟨p, 0, none⟩), .int .i64 (X : Int), .pointer (some ⟨q, 0, none⟩), .pointer (some ⟨q + 1, 0, none⟩), .int .i64 (y.1 : Int), u13, u14, u15, u16, u17, u18, u19, u20, u21, u22, u23, u24, u25, u26, u27, u28, u29, .int .i64 (X : Int), .bool true, .int .i64 (X : Int), .func (.func 131) #[] #[.pointer (some ⟨q + 2, 0, none⟩)], .int .i64 (y.1 : Int), u35, u36, u37, u38, u39, u40, u41, u42, u43, u44, u45, u46, u47, u48, u49, u50, u51, u52, u53], defers := [] }) ?assign ?body ?done ?stop
          case assign =>
            intro li y W K hK
            gi_wp2
            exact hK
          case body =>
            rintro li pre y W ⟨hq1, hq2, ho⟩ hlen
            obtain ⟨dX, dF, dO, dI, dB, dM, dZ⟩ := K.out W ho
            obtain ⟨c0, c1, cz⟩ := dX
            have cf := dF.cell
            have co := dO.cell
            have HON := Lib.hid ho
            have HQ1 := Lib.hid hq1
            have HQ2 := Lib.hid hq2
            have HDB := Lib.hid dB
            have HDI := Lib.hid dI
            obtain ⟨k, hk7, hkb⟩ := y
            have hkX : X.testBit k = true := (bitAt_nat X k).1 hkb
            have hkl : k < lg.length := bit_lt hXl hkX
            have HCALL := Lib.hid (HRU.out HG.out W L u k dI.ints HV.out (by omega) hkl (HI.out.on dB))
            clear hq1 hq2 ho dB dI dF dO dM
            obtain ⟨M, hM⟩ : ∃ M, M = mk L k := ⟨_, rfl⟩
            obtain ⟨o, ho⟩ : ∃ o, o = pickL (mk L) (pre.map (·.1)) := ⟨_, rfl⟩
            obtain ⟨Gv, hGv⟩ : ∃ z, z = greatV (mk L) o := ⟨_, rfl⟩
            have HMM := Lib.hid hM
            have HOO := Lib.hid ho
            have HGV := Lib.hid hGv
            rw [← ho] at HQ1 HQ2
            rw [← hGv] at HQ2
            rw [← hM] at HCALL
            clear hM ho hGv
            gi_wp2_with fail
            refine ⟨trivial, (CallsIn.inRound li (callsIn_wide.2 HCALL.out)).mono ?_⟩
            rintro e W3 ⟨rfl, hb⟩
            have HQ3 := Lib.hid (show Boxed W3 q 3 (.int .i64 (nextV o)) from (hb.block _ (by omega)).trans HQ1.out)
            have HQ4 := Lib.hid (show Boxed W3 (q + 1) 3 (.int .i64 Gv) from (hb.block _ (by omega)).trans HQ2.out)
            have HON3 := Lib.hid (HON.out.trans (Only.of_below q (q + 2) hb))
            have HKO := Lib.hid (KeepsOthers.of_grownBy (below_grown hb) (by simp))
            have HCB := Lib.hid (show W3.cell? ⟨q + 2, 0, none⟩ = W.cell? ⟨q + 2, 0, none⟩ from hb.cell (p := ⟨q + 2, 0, none⟩) (by show q + 2 < W.heap.size; omega))
            have hz3' : W.heap.size ≤ W3.heap.size := hb.size
            have HSN := Lib.hid (show pickL (mk L) ((pre ++ [(⟨k, hk7, hkb⟩ : Mem (X : Int))]).map (·.1)) = if Gv < (M : Int) then some k else o by
              rw [List.map_append]
              show pickL (mk L) (pre.map (·.1) ++ [k]) = _
              rw [pickL_snoc, ← HOO.out, HGV.out, HMM.out]
              unfold pickS greatV
              split
              · simp
                omega
              · simp)
            have b1 := HQ3.out.cell
            have b2 := HQ3.out.frozen
            have b3 := HQ4.out.cell
            have b4 := HQ4.out.frozen
            clear hb c0 c1 cz cf co
            by_cases hlt : Gv < (M : Int)
            · have d0 : decide (Gv < (M : Int)) = true := decide_eq_true hlt
              have HS2 := Lib.hid (HSN.out.trans (if_pos hlt))
              gi_wp2
              refine ⟨(HKO.out.trans (KeepsOthers.setCell _ _ _)).trans (KeepsOthers.setCell _ _ _), ?_, ?_, ?_, ?_⟩
              · show World.cell? _ _ = _
                rw [World.cell?_setCell_far _ _ _ _ (by show q + 1 ≠ q + 2; omega), World.cell?_setCell_far _ _ _ _ (by show q ≠ q + 2; omega)]
                exact HCB.out
              · rw [HS2.out]; exact (HQ3.out.set _).other (by omega) _
              · rw [HS2.out]
                show Boxed _ _ _ (.int .i64 ((mk L k : Nat) : Int))
                rw [← HMM.out]
                exact (HQ4.out.other (by omega) _).set _
              · exact (HON3.out.setC (by omega) (by omega) _).setC (by omega) (by omega) _
            · have d0 : decide (Gv < (M : Int)) = false := decide_eq_false hlt
              have HS2 := Lib.hid (HSN.out.trans (if_neg hlt))
              gi_wp2
              refine ⟨HKO.out, HCB.out, ?_, ?_, HON3.out⟩
              · rw [HS2.out]; exact HQ3.out
              · rw [HS2.out, ← HGV.out]; exact HQ4.out
          case done =>
            rintro D ys W hD hys ⟨hq1, hq2, ho⟩ hK
            obtain ⟨dX, dF, dO, dI, dB, dM, dZ⟩ := K.out W ho
            have hpk : pickL (mk L) (ys.map (·.1)) = some (nextM (mk L) X) := by rw [hys, memU_nat]; exact n1
            rw [hpk] at hq1
            obtain ⟨nx, hnx⟩ : ∃ z, z = nextM (mk L) X := ⟨_, rfl⟩
            rw [← hnx] at hq1 n2 n3 n4 n5 n6 n7 HNX
            have HMW : Hid (MarksOk (p + 1) (D :: Ds) W) := dM.cons (by have := HQQ.out; omega) hK fun hDD => by have := HMK.out.lt hDD; have := HQQ.out; omega
            have co := dO.cell
            have fo := dO.frozen
            have cn : W.cell? ⟨q, 0, none⟩ = some (.int .i64 (nx : Int)) := hq1.cell
            have HDX := Lib.hid dX
            have HDF := Lib.hid dF
            have HDO := Lib.hid dO
            have HDI := Lib.hid dI
            have HDB := Lib.hid dB
            have hnl7 : nx < lg.length := bit_lt hXl n3
            obtain ⟨P2, eP2, hP21, hP22⟩ : ∃ P, (2 : Int) ^ nx = P ∧ 1 ≤ P ∧ P ≤ 128 := ⟨_, rfl, (shl_one' nx (by omega)).2.2.2.2, (shl_one' nx (by omega)).2.2.2.1⟩
            have g3 : IntKind.i64.wrap (1 * P2) = P2 := IntWalk.i64_in _ (by omega) |>.trans (by omega)
            have g4 : IntKind.i64.wrap P2 = P2 := IntWalk.i64_in _ (by omega)
            obtain ⟨X', hX'⟩ : ∃ z, z = X - 2 ^ nx := ⟨_, rfl⟩
            have hAN2 : bits .andNot .i64 (X : Int) P2 = (X' : Int) := by
              have e2 : P2 = ((2 ^ nx : Nat) : Int) := by rw [← eP2]; push_cast; rfl
              rw [e2, hX']
              exact andNot_nat hX7 n7
            rw [← hX'] at n5 n6 HNX
            have HNXX := Lib.hid hnx
            have hw2W : w2.heap.size ≤ W.heap.size := by have := HPW.out; have := HQQ.out; omega
            clear hq1 hq2 ho hK dX dF dO dI dB dM hpk hX' n1 hnx
            gi_wp2_with (gi_at_builtin; refine wpListIn_append_own _ rfl (.tmp 45) (.tmp 47) 22 rfl w2.heap.size 3 i0 (.int .i64 0) 1 8 Try.underlying22 hi hi0 hi1 hi2 rfl (by decide) u L.length (iv L) rfl (HDI.out.2.alloc _) ⟨W.heap.size, 0, none⟩ 1 1 [.int .i64 (nx : Int)] rfl rfl (cell_one_new _ _ _) (fun u hu => by simp at hu; subst hu; rfl) (by unfold maxLen; omega) (by omega) (by simp; omega) ?_)
            intro v' w7 hown' hg3 hnil
            obtain ⟨g', cap', rfl⟩ := ownsRow_succ hown'
            obtain ⟨b1, b2, b3, b4, b5⟩ := HDO.out.appended (by decide) HDI.out.2 (by have := HQQ.out; omega) (by have := HPW.out; omega) hown' hg3
            have f3 := b1.cell
            have f4 := b1.frozen
            have hqu : ∀ k, u.ownBlock = some k → k < q := fun k hk => by have := (HO.out.1.lt k hk).2; have := HQQ.out; omega
            have cn7 : w7.cell? ⟨q, 0, none⟩ = some (.int .i64 (nx : Int)) := by
              have h1 := (gcell hg3).1 q 0 (by simp; omega) (fun e => by have := hqu q e.symm; omega)
              exact h1.trans ((World.cell?_alloc_lt W _ ⟨q, 0, none⟩ (by show q < W.heap.size; omega)).trans cn)
            have hw2g : w.heap.size + 2 ≤ w2.heap.size := hz2
            have HDG := Lib.hid (show BoxG w.heap.size n (.slice a lg.length cap) (w7.setCell ⟨p, 0, none⟩ (.slice (some ⟨g', 0, none⟩) (L.length + 1) cap')) from ⟨(b5.cell (p := ⟨w.heap.size, 0, none⟩) (by show w.heap.size < w2.heap.size; omega)).trans HDX.out.1, (b5.cell (p := ⟨w.heap.size, 1, none⟩) (by show w.heap.size < w2.heap.size; omega)).trans HDX.out.2.1, Nat.lt_of_lt_of_le HDX.out.2.2 b5.size⟩)
            have HDF2 := Lib.hid (show Boxed (w7.setCell ⟨p, 0, none⟩ (.slice (some ⟨g', 0, none⟩) (L.length + 1) cap')) (w.heap.size + 1) 123 (.func (.func f) #[] cp) from (b5.block _ (by omega)).trans HDF.out)
            have HB2 := Lib.hid b2
            have HNR := Lib.hid (b2.not_row (by decide) b3)
            have HOW := Lib.hid (show OwnI w2.heap.size (w7.setCell ⟨p, 0, none⟩ (.slice (some ⟨g', 0, none⟩) (L.length + 1) cap')) (.slice (some ⟨g', 0, none⟩) (L.length + 1) cap') (L ++ [(nx : Int)]) from ⟨inI64_append HDI.out.1 (inI64_one (by omega) (by omega)), by
              have h3 := b3
              rw [iv_snoc] at h3
              simpa using h3⟩)
            have HMO := Lib.hid (show MarksOk (p + 1) (D :: Ds) (w7.setCell ⟨p, 0, none⟩ (.slice (some ⟨g', 0, none⟩) (L.length + 1) cap')) from HMW.out.keep fun E hE => (b4.same E _ (HMW.out.2 E hE).2 rfl).trans (HMW.out.2 E hE).2.symm)
            have HBE := Lib.hid (show Below w.heap.size w (w7.setCell ⟨p, 0, none⟩ (.slice (some ⟨g', 0, none⟩) (L.length + 1) cap')) from HDB.out.trans (b5.mono (by omega)))
            have hzf : p + 1 ≤ (w7.setCell ⟨p, 0, none⟩ (.slice (some ⟨g', 0, none⟩) (L.length + 1) cap')).heap.size := by have := b5.size; have := HQQ.out; omega
            have HZF := Lib.hid hzf
            have cq7 : (w7.setCell ⟨p, 0, none⟩ (.slice (some ⟨g', 0, none⟩) (L.length + 1) cap')).cell? ⟨q, 0, none⟩ = some (.int .i64 (nx : Int)) := by
              rw [World.cell?_setCell_far _ _ _ _ (by show p ≠ q; have := HQQ.out; omega)]
              exact cn7
            have HN6 := Lib.hid n6
            have HN5 := Lib.hid n5
            have HPOP := Lib.hid hpop
            have HXL := Lib.hid (show X' < 2 ^ lg.length by omega)
            have HVS := Lib.hid (HV.out.snoc hnl7)
            clear b1 b2 b3 b4 b5 hown' hg3 hnil hqu n2 n3 n4 n6 n7 hpop hzf
            gi_wp2
            refine ⟨?_, ?measure⟩
            (repeat apply Exists.intro)
            refine ⟨?rel, rfl⟩
            case rel => exact ⟨X', fu', L ++ [(nx : Int)], _, D :: Ds, HXL.out, rfl, (by have := HN6.out; have := HPOP.out; omega), (by simp; omega), rfl, HMO.out, HDG.out, HDF2.out, HB2.out, ⟨HOW.out, fun k hk e => HNR.out (e ▸ hk.symm)⟩, HBE.out, HVS.out, HNX.out, HZF.out⟩
            case measure => simp [intOf]; have := HN5.out; omega
          case stop =>
            rintro D c pre W hD hpre h hK
            exact h.elim
    · have HN := Lib.hid (show R = none by rw [HR.out]; unfold ordR; rw [if_neg (fun h => hs h.2)])
      gi_wp2_with fail
      refine ⟨trivial, (callsIn_wide.2 (hasVertex_no n _ lg start _ (HI.out.on F1.out) hs)).mono ?_⟩
      rintro e w2 ⟨rfl, hb⟩
      have F2 := Lib.hid (F1.out.trans (hb.mono F1.out.size))
      clear hb c0 c1 cz
      gi_wp2
      refine ⟨_, by simp [results, Try.f72, go_sem]; rfl, ?_⟩
      rw [HN.out]
      exact ⟨_, rfl, ⟨inI64_nil, World.ownsRow_nil _ _ _ _⟩, F2.out⟩

end Go.Proofs.Ytcpchdnhhjhpaaa
