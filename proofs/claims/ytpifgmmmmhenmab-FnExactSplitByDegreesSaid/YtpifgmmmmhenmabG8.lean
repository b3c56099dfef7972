/- Walks over graphWith: a graph by a rule for its pairs. -/
import Derived.Test.YtpifgmmmmhenmabG5
import Derived.Test.YtpifgmmmmhenmabGq
import Derived.Test.YtpifgmmmmhenmabGl
import Derived.Deep.AppendLies
namespace Go.Proofs.Ytpifgmmmmhenmab
set_option linter.unusedVariables false
set_option linter.unusedSimpArgs false
open Go.RowKit

theorem flip_adj (n : Nat) (P : Nat → Nat → Bool) (i j : Nat) (hi : i < n) (hj : j < n) (h : P i j = false) : flip (nth (adjL n P) i) j = rowV (fun k => k == j || P i k) n := by
  unfold flip
  rw [adjL_bit n P i j hi hj, h, rowV_set (P i) n j hj h, adjL_nth n P i hi]
  simp

theorem adjL_flip (n : Nat) (P : Nat → Nat → Bool) (i j : Nat) (hi : i < n) (hj : j < n) (hij : i ≠ j) (h1 : P i j = false) (h2 : P j i = false) :
    flipE (adjL n P) i j = adjL n (fun a b => P a b || (a == i && b == j) || (a == j && b == i)) := by
  refine list_ext_nth (by simp [flipE_length, adjL_length]) fun a ha => ?_
  rw [flipE_length, adjL_length] at ha
  rw [adjL_nth n _ a ha]
  unfold flipE
  rw [nth_set _ j _ a (by simpa [adjL_length] using hj), nth_set _ i _ a (by simpa [adjL_length] using hi)]
  by_cases e : a = j
  · subst e
    rw [if_pos rfl, flip_adj n P a i ha hi h2]
    refine rowV_congr _ _ n fun b hb => ?_
    have : (a == i) = false := by simp; exact fun h => hij h.symm
    simp [this]
    exact Bool.or_comm _ _
  · rw [if_neg e]
    by_cases e' : a = i
    · subst e'
      rw [if_pos rfl, flip_adj n P a j ha hj h1]
      refine rowV_congr _ _ n fun b hb => ?_
      have : (a == j) = false := by simp; exact e
      simp [this]
      exact Bool.or_comm _ _
    · rw [if_neg e', adjL_nth n P a ha]
      refine rowV_congr _ _ n fun b hb => ?_
      have h1 : (a == i) = false := by simpa using e'
      have h2 : (a == j) = false := by simpa using e
      show P a b = (P a b || (a == i && b == j) || (a == j && b == i))
      rw [h1, h2]
      simp

theorem part_step (n : Nat) (r : Nat → Nat → Bool) (k m : Nat) (hk : k < n) (hm : m < k) (hr : r m k = true) : flipE (adjL n (partR r k m)) m k = adjL n (partR r k (m + 1)) := by
  rw [adjL_flip n _ m k (by omega) hk (by omega) (partR_open r k m) (by rw [partR_comm]; exact partR_open r k m)]
  exact adjL_congr n _ _ fun i hi j hj => (partR_yes r k m i j hr hm).symm

theorem part_same (n : Nat) (r : Nat → Nat → Bool) (k m : Nat) (hm : m < k) (hr : r m k = false) : adjL n (partR r k m) = adjL n (partR r k (m + 1)) :=
  adjL_congr n _ _ fun i hi j hj => (partR_no r k m i j hr hm).symm

/-- append(s, x) of one int out of a block of its own, as one step of a region that draws its order. -/
theorem step_append_int1 {P : Program} {K : Act → World → Prop} {E : Prop} {Q : Exit → Act → World → Prop} {ops : Array Oper} {o : Oper} {a : Act} {W : World} (hgd : o.guard = none) (s x : Operand) (t : TypeId)
    (ho : o.op = .call { callee := .builtin .append, args := #[s, x], argTypes := #[t, t] }) (B : Nat) (i : TypeInfo) (ht : P.underlying t = some (.slice 3)) (hi : P.info? 3 = some i)
    (hz : i.zero = some (.int .i64 0)) (hsize : i.size = 1) (hby : i.bytes = 8) (v : Value) (m : List Int) (hs : a.eval s = v) (hown : OwnI B W v m) (g : Nat) (y : Int) (y0 : -9223372036854775808 ≤ y) (y1 : y ≤ 9223372036854775807) (hx : a.eval x = .slice (some ⟨g, 0, none⟩) 1 1)
    (hblk : W.heap[g]? = some (.cells #[.int .i64 y] 3 (0, 0))) (hlen : m.length + 1 ≤ 1000000000) (hB : B ≤ W.heap.size)
    (h : ∀ g' cap w', OwnI B w' (.slice (some ⟨g', 0, none⟩) (m ++ [y]).length cap) (m ++ [y]) → W.grownBy w' v.ownBlock → K (a.put o.dst (.slice (some ⟨g', 0, none⟩) (m ++ [y]).length cap)) w') :
    if Region.wanted o (yielded ops a.tmps) = true then Oper.wp P o a W K Q else E := by
  refine step_append_lies W hgd s x t ho B 3 i (.int .i64 0) 1 8 ht hi hz hsize hby rfl (by decide) v m.length (iv m) hs hown.2 ⟨g, 0, none⟩ 1 1 [.int .i64 y] hx rfl ?_ (fun u hu => by simp at hu; subst hu; rfl) (by decide) (by unfold maxLen; omega) (by omega) hB _ rfl fun g' cap w' h1 h2 _ _ => ?_
  · intro j u hj
    match j, hj with
    | 0, hj => simp at hj; subst hj; simp [Addr.add, World.cell?, hblk]
  · have := h g' cap w' ⟨inI64_append hown.1 (inI64_one y0 y1), by rw [iv_snoc] at h1; simpa using h1⟩ h2
    simpa using this

/-- A function of the program's own text. -/
def Enters (f : FuncId) : Prop := ∀ (args : Array Value) (W : World), Sem.run Try.prog (callFunc f args) W = .ok (.enter f args) W

/-- A function value that answers by r, wherever only what is new has turned. -/
def Rule (f : FuncId) (cp : Array Value) (n : Nat) (r : Nat → Nat → Bool) (W0 : World) : Prop :=
  ∀ W (v w : Nat), v < w → w < n → Below W0.heap.size W0 W → Calls Try.prog f (#[.int .i64 v, .int .i64 w] ++ cp) W fun e W' => e = .returned (.bool (r v w)) ∧ Below W.heap.size W W'

/-- The cells of a graph that the call will answer with: nothing yet. -/
def Blank (q : Nat) (w : World) : Prop := w.cell? ⟨q, 0, none⟩ = some (.int .i64 0) ∧ w.cell? ⟨q, 1, none⟩ = some (.slice none 0 0) ∧ w.frozen? ⟨q, 0, none⟩ = false ∧ w.frozen? ⟨q, 1, none⟩ = false ∧ q < w.heap.size

theorem Blank.keep {q : Nat} {w w' : World} {row : Option Nat} (h : Blank q w) (hg : w.grownBy w' row) (hr : row ≠ some q) : Blank q w' := by
  obtain ⟨hc, hf⟩ := gcell hg
  obtain ⟨h0, h1, h2, h3, h4⟩ := h
  exact ⟨by rw [hc q 0 h4 (fun e => hr e.symm)]; exact h0, by rw [hc q 1 h4 (fun e => hr e.symm)]; exact h1, by rw [hf q 0 h4 (fun e => hr e.symm)]; exact h2, by rw [hf q 1 h4 (fun e => hr e.symm)]; exact h3, Nat.lt_of_lt_of_le h4 hg.size⟩

theorem Blank.new (w : World) (T : TypeId) : Blank w.heap.size (w.alloc (.cells #[.int .i64 0, .slice none 0 0] T)) := ⟨by simp [go_sem], by simp [go_sem], by simp [go_sem], by simp [go_sem], by simp⟩

/-- What graphWith holds between two pairs. -/
def Pairs (w : World) (n : Nat) (r : Nat → Nat → Bool) (k m : Nat) (wr : World) : Prop :=
  OwnI (w.heap.size + 1) wr (.slice (some ⟨w.heap.size + 1, 0, none⟩) (adjL n (partR r k m)).length n) (adjL n (partR r k m)) ∧ BoxG (w.heap.size + 1 + 1) n (.slice (some ⟨w.heap.size + 1, 0, none⟩) n n) wr ∧ Blank w.heap.size wr ∧ Below w.heap.size w wr

theorem adjL_small (n : Nat) (P : Nat → Nat → Bool) (hn : n ≤ 7) : Small (adjL n P) := fun i hi => by
  rw [adjL_length] at hi
  rw [adjL_nth n P i hi]
  have h := rowV_bd (P i) n
  have h2 := two_mono n (7 - n)
  rw [show n + (7 - n) = 7 by omega] at h2
  have : (2 : Int) ^ 7 = 128 := by decide
  omega

theorem adjL_in (n : Nat) (P : Nat → Nat → Bool) (hn : n ≤ 7) : inI64 (adjL n P) := fun x hx => by
  obtain ⟨i, hi, rfl⟩ := List.mem_iff_getElem.1 hx
  have h := adjL_small n P hn i hi
  rw [show nth (adjL n P) i = (adjL n P)[i] by simp [nth, List.getD, hi]] at h
  omega

set_option maxHeartbeats 2000000 in
set_option maxRecDepth 100000 in
theorem graphWith_any (f : FuncId) (cp : Array Value) (n : Nat) (r : Nat → Nat → Bool) (w : World) (h1 : 1 ≤ n) (hn : n ≤ 7) (he : Enters f) (hr : Rule f cp n r w) :
    Calls Try.prog 115 #[.int .i64 n, .func (.func f) #[] cp] w (GetsG w.heap.size w n (adjL n (symR r))) := by
  have hmk := fun W : World => run_make_row' (P := Try.prog) 22 3 (.int .i64 0) 8 Try.underlying22 infoInt rfl .i64 .i64 n (by omega) (by omega) W
  have HR := Lib.hid hr
  clear hr
  unfold Enters at he
  go_enter Try.func115, Try.ntmps115
  go_wp2
  clear hmk
  go_loopw [13] (fun i wr => ∃ k : Nat, k ≤ n ∧ i = .int .i64 k ∧ Pairs w n r k 0 wr) (fun i _ => n - (intOf i).toNat)
  case atStart =>
    have hz : ∀ i, i < (adjL n (partR r 0 0)).length → (fun _ : Nat => Value.int .i64 0) i = .int .i64 (nth (adjL n (partR r 0 0)) i) := fun i hi => by
      rw [adjL_length] at hi
      rw [adjL_nth n _ i hi, rowV_congr _ _ n (fun j _ => partR_none r i j), rowV_none]
    have hrow := World.rowIs_made (w.alloc (.cells #[.int .i64 0, .slice none 0 0] 27)) (.int .i64 0) (adjL n (partR r 0 0)).length 3
    have hown := OwnI.of_row (B := w.heap.size + 1) (l := adjL n (partR r 0 0)) hrow hz (by simp) (adjL_in n _ hn) (by rw [adjL_length]; unfold maxLen; omega)
    simp only [adjL_length, World.size_alloc] at hown
    refine ⟨0, by omega, rfl, ?_, ?_, ?_, ?_⟩
    · rw [adjL_length]; exact hown.alloc _
    · have := BoxG.new ((w.alloc (.cells #[.int .i64 0, .slice none 0 0] 27)).alloc (.cells (madeCells #[.int .i64 0] n) 3)) 27 n (.slice (some ⟨w.heap.size + 1, 0, none⟩) n n) ⟨_, _, _, rfl⟩
      simpa using this
    · exact ((Blank.new w _).keep (grown_alloc _ _ none) (by simp)).keep (grown_alloc _ _ none) (by simp)
    · exact (((Below.refl _ w).alloc (Nat.le_refl _) _).alloc (by simp) _).alloc (by simp <;> omega) _
  case round =>
    obtain ⟨k, hk, rfl, hP⟩ := hrel
    by_cases hkn : k < n
    · have HP := Lib.hid hP
      clear hP
      go_wp2
      go_loopw [17] (fun i wr => ∃ m : Nat, m ≤ k ∧ i = .int .i64 m ∧ Pairs w n r k m wr) (fun i _ => k - (intOf i).toNat)
      case atStart => exact ⟨0, by omega, rfl, HP.out⟩
      case round =>
        clear HP
        obtain ⟨m, hm, rfl, hP⟩ := hrel
        by_cases hmk : m < k
        · have HP := Lib.hid hP
          clear hP
          go_wp2_with fail
          refine (HR.out _ m k hmk hkn HP.out.2.2.2).mono ?_
          rintro e w2 ⟨rfl, hb⟩
          have HO := Lib.hid (HP.out.1.keep (below_grown hb) (by simp))
          have HX := Lib.hid (HP.out.2.1.keep (below_grown hb) (by simp))
          have HBL := Lib.hid (HP.out.2.2.1.keep (below_grown hb) (by simp))
          have HB := Lib.hid (HP.out.2.2.2.trans (hb.mono HP.out.2.2.2.size))
          clear hb HP
          cases hrm : r m k with
          | false =>
            have HS := Lib.hid (part_same n r k m hmk hrm)
            clear hrm
            go_wp2
            go_roundw
            case rel => exact ⟨m + 1, by omega, by go_num, by rw [← HS.out]; exact HO.out, HX.out, HBL.out, HB.out⟩
            case measure => simp [intOf]; omega
          | true =>
            have HS := Lib.hid (part_step n r k m hkn hmk hrm)
            clear hrm
            obtain ⟨q0, q1, qz⟩ := HX.out
            have hlen := adjL_length n (partR r k m)
            go_wp2_with fail
            refine (turnEdge_any (w.heap.size + 1) (w.heap.size + 1 + 1) (w.heap.size + 1) n n (adjL n (partR r k m)) m k w2 q0 (by rw [hlen]; exact q1) (by omega) HO.out (by rw [hlen]; omega) (by rw [hlen]; exact hkn) (by omega) (adjL_small n _ hn) (by rw [hlen]; exact hn)).mono ?_
            rintro e w3 ⟨rfl, ho, hg⟩
            have HO3 := Lib.hid ho
            have HX3 := Lib.hid (HX.out.keep hg (by simp <;> omega))
            have HBL3 := Lib.hid (HBL.out.keep hg (by simp <;> omega))
            have HB3 := Lib.hid (HB.out.grown hg HB.out.size (fun k hk => by have := Option.some.inj hk; omega))
            clear ho hg q0 q1 qz HO HX HBL HB hlen
            go_wp2
            go_roundw
            case rel => exact ⟨m + 1, by omega, by go_num, by rw [← HS.out, flipE_length]; exact HO3.out, HX3.out, HBL3.out, HB3.out⟩
            case measure => simp [intOf]; omega
        · obtain rfl : m = k := by omega
          have HP := Lib.hid hP
          clear hP
          go_wp2
          go_roundw
          case rel =>
            refine ⟨m + 1, by omega, by go_num, ?_⟩
            have : adjL n (partR r (m + 1) 0) = adjL n (partR r m m) := adjL_congr n _ _ fun i _ j _ => (partR_next r m i j).symm
            unfold Pairs
            rw [this]
            exact HP.out
          case measure => simp [intOf]; omega
    · obtain rfl : k = n := by omega
      have hall : adjL k (symR r) = adjL k (partR r k 0) := adjL_congr k _ _ fun i hi j hj => (partR_all r k i j hi hj).symm
      obtain ⟨ho, ⟨q0, q1, qz⟩, ⟨b0, b1, b2, b3, b4⟩, hb⟩ := hP
      have HO := Lib.hid ho
      have HB := Lib.hid hb
      have HALL := Lib.hid hall
      clear ho hb hall
      have hlen := adjL_length k (partR r k 0)
      have HL := Lib.hid hlen
      clear hlen
      go_wp2
      refine bodyPost_ret (v := .agg #[.int .i64 k, .slice (some ⟨w.heap.size + 1, 0, none⟩) k k]) (by simp [results, Try.results115, go_sem, b0, b1, b2, b3]) rfl ⟨_, rfl, ?_, ?_⟩
      · have := HO.out
        rw [HL.out] at this
        rw [HALL.out]
        exact ((this.setBelow (by simp) _).setBelow (by simp) _).mono (by omega)
      · exact (HB.out.setCell (by simp) _).setCell (by simp) _

end Go.Proofs.Ytpifgmmmmhenmab
