/- The program's iterator over the members of a set. -/
import Derived.Test.YtpifgmmmmhenmabChecked
import Derived.Test.YtpifgmmmmhenmabGp
import Derived.Test.YtpifgmmmmhenmabGw
import Derived.RangeFuncNested
import Derived.RangeFuncFrom
import Derived.RangeFuncBound
import Derived.RangeFuncCalls
import Derived.RangeFuncLeaves
import Derived.Shelf.Abstract
import Derived.Shelf.RegionOpen
import Derived.WalkKit
import Derived.OwnWalkIn
import Derived.TacticsInMore
import Derived.LoopNIn
import Derived.Sort.QuietIn
import Derived.LoopIn
namespace Go.Proofs.Ytpifgmmmmhenmab
set_option linter.unusedVariables false
set_option linter.unusedSimpArgs false
open Go.RowKit Go.Shelf
attribute [local go_sem] Oper.semAt_some

/-- The members of a set below k, in their order. -/
def memU (s : Int) (k : Nat) : List Nat := (List.range k).filter fun v => decide (bitAt s v = 1)

theorem memU_succ (s : Int) (k : Nat) : memU s (k + 1) = memU s k ++ (if bitAt s k = 1 then [k] else []) := by
  unfold memU
  rw [List.range_succ, List.filter_append]
  by_cases h : bitAt s k = 1 <;> simp [h]

theorem memU_le (s : Int) (k : Nat) : (memU s k).length ≤ k := by
  have := List.length_filter_le (fun v => decide (bitAt s v = 1)) (List.range k)
  simpa [memU] using this

theorem memU_prefix (s : Int) (k m : Nat) : memU s k <+: memU s (k + m) := by
  induction m with
  | zero => exact List.prefix_rfl
  | succ m ih =>
    rw [← Nat.add_assoc, memU_succ]
    exact ih.trans (List.prefix_append _ _)

/-- A member of a set, as what the iterator hands on. -/
abbrev Mem (s : Int) := { x : Nat // x < 7 ∧ bitAt s x = 1 }

theorem verticesIn_is (s : Int) (w : World) : Calls Try.prog 76 #[.int .i64 s] w fun e w' =>
    e = .returned (.func (.func 108) #[] #[.pointer (some ⟨w.heap.size, 0, none⟩)]) ∧ w.alloc (.cells #[.int .i64 s] 3) = w' := by
  have hmf : ∀ (fn : Fn) (first cap : Array Value) (w : World), (Instr.makeFunc fn first cap).run Try.prog w = .ok (.func fn first cap) w := fun _ _ _ _ => rfl
  go_enter Try.func76, Try.ntmps76
  go_wp2
  go_ret
  exact ⟨rfl, rfl⟩

set_option maxHeartbeats 2000000 in
set_option maxRecDepth 100000 in
theorem vin_in (F : Fence) (n : Nat) (h56 : F.fn 108) (hro : F.round = none) (hn : 1 ≤ n) (l Bn : Nat) (Kp : World → World → Prop) (hK : ∀ A B, Kp A B → B.cell? ⟨Bn, 0, none⟩ = A.cell? ⟨Bn, 0, none⟩) (s : Int) (J Jx : List (Mem s) → World → Prop)
    (hY : ∀ pre x W, J pre W → pre.length < 7 → YieldAt F (n - 1) Try.prog l #[.int .i64 (x.1 : Int)] W fun e W' =>
      (e = .returned (.bool true) ∧ J (pre ++ [x]) W' ∧ Kp W W') ∨ (e = .returned (.bool false) ∧ Jx (pre ++ [x]) W'))
    (W : World) (hBn : W.cell? ⟨Bn, 0, none⟩ = some (.int .i64 s)) (h0 : J [] W) :
    CallsIn F n Try.prog 108 #[.func (.yield l) #[] #[], .pointer (some ⟨Bn, 0, none⟩)] W fun e W' => (∃ v, e = .returned v) ∧
      ((∃ ys, ys.map (·.1) = memU s 7 ∧ J ys W') ∨ (∃ pre, pre.map (·.1) <+: memU s 7 ∧ Jx pre W')) := by
  refine callsIn_of_wp Try.func108 rfl h56 ?_ hro
  simp only [Try.ntmps108, List.size_toArray, List.length_cons, List.length_nil, Nat.reduceAdd, Nat.reduceSub, Array.replicate_succ, Array.replicate_zero, List.push_toArray, List.append_toArray, List.nil_append, List.cons_append]
  gi_wp2
  gi_loopw [4] (fun i wr => ∃ (k : Nat) (pre : List (Mem s)), k ≤ 7 ∧ i = .int .i64 k ∧ Hid (pre.map (·.1) = memU s k) ∧ J pre wr ∧ wr.cell? ⟨Bn, 0, none⟩ = some (.int .i64 s))
    (fun i _ => 7 - (intOf i).toNat)
  case atStart => exact ⟨0, [], by omega, rfl, rfl, h0, hBn⟩
  case round =>
    obtain ⟨k, pre, hk, rfl, HP, hJs, hc⟩ := hrel
    by_cases hlt : k < 7
    · obtain ⟨t, ht⟩ : ∃ t, t = bitAt s k := ⟨_, rfl⟩
      have e1 : bits .and .i64 (s / 2 ^ k) 1 = t := by rw [ht]; exact and_one_bit s k
      have z1 : t = 0 ∨ t = 1 := by rw [ht]; exact bitAt_two _ _
      have HT := Lib.hid ht
      have HM := Lib.hid (memU_succ s k)
      have hki : (k : Int) < 7 := by omega
      clear ht
      rcases z1 with rfl | rfl
      · have HN := Lib.hid (show memU s (k + 1) = memU s k by rw [HM.out, ← HT.out]; simp)
        gi_wp2
        refine ⟨fun _ h => (by cases h), ?_⟩
        gi_wp2
        go_roundw
        case rel => exact ⟨k + 1, pre, by omega, by go_num, by rw [HN.out]; exact HP.out, hJs, hc⟩
        case measure => simp [intOf]; omega
      · have HN := Lib.hid (show memU s (k + 1) = memU s k ++ [k] by rw [HM.out, ← HT.out]; simp)
        have hlen : pre.length < 7 := by
          have h1 := congrArg List.length HP.out
          have h2 := memU_le s k
          rw [List.length_map] at h1
          omega
        obtain ⟨fn, tmps, assign, body, hy, hR⟩ := hY pre ⟨k, hlt, HT.out.symm⟩ wr hJs hlen
        dsimp only at hy
        gi_wp2
        refine hR.mono ?_
        rintro e W3 (⟨rfl, hJ3, hk3⟩ | ⟨rfl, hJx3⟩)
        · have hc3 : W3.cell? ⟨Bn, 0, none⟩ = some (.int .i64 s) := (hK _ _ hk3).trans hc
          gi_wp2
          go_roundw
          case rel => exact ⟨k + 1, pre ++ [⟨k, hlt, HT.out.symm⟩], by omega, by go_num, by rw [HN.out, List.map_append, HP.out]; rfl, hJ3, hc3⟩
          case measure => simp [intOf]; omega
        · gi_wp2
          refine bodyPost_ret (results_none rfl _ _ _) rfl ?_
          refine ⟨⟨_, rfl⟩, .inr ⟨pre ++ [⟨k, hlt, HT.out.symm⟩], ?_, hJx3⟩⟩
          rw [List.map_append, HP.out]
          have := memU_prefix s (k + 1) (7 - (k + 1))
          rw [show k + 1 + (7 - (k + 1)) = 7 by omega, HN.out] at this
          exact this
    · obtain rfl : k = 7 := by omega
      gi_wp2
      go_end0
      exact ⟨⟨_, rfl⟩, .inl ⟨pre, HP.out, hJs⟩⟩

/-- The contract of the iterator: for every loop body that keeps what lay below n₀. -/
theorem vin_stops (F : Fence) (n : Nat) (h56 : F.fn 108) (hro : F.round = none) (hn : 1 ≤ n) (Bn n₀ : Nat) (s : Int) (w : World) (hB : Bn < n₀) (hBw : Bn < w.heap.size) (hc : w.cell? ⟨Bn, 0, none⟩ = some (.int .i64 s)) :
    SeqStopsK F n Try.prog 108 #[.pointer (some ⟨Bn, 0, none⟩)] (fun x : Mem s => #[.int .i64 (x.1 : Int)]) (Below n₀) (fun xs => xs.map (·.1) = memU s 7) (fun pre => pre.map (·.1) <+: memU s 7) 7 w := by
  intro l J Jx W hW hJ hJx hY h0
  exact vin_in F n h56 hro hn l Bn (Below n₀) (fun A B h => h.cell (p := ⟨Bn, 0, none⟩) hB) s J Jx hY W ((hW.cell (p := ⟨Bn, 0, none⟩) hBw).trans hc) h0

/-- The cell of the set that is ranged over reads as it did. -/
def KeepC (b : Nat) (A B : World) : Prop := B.cell? ⟨b, 0, none⟩ = A.cell? ⟨b, 0, none⟩

theorem keepC_t {b : Nat} {A B C : World} (h : KeepC b A B) (k : KeepC b B C) : KeepC b A C := Eq.trans k h

theorem keepC_b {b : Nat} {w : World} (hb : b < w.heap.size) (W : World) (l : Nat) (o o' : Obj) (hl : w.heap.size ≤ l) (h : W.heap[l]? = some o) (_ : o.isCells = false) (_ : o.isWalk = false) : KeepC b W (W.putObj l o') := by
  have hlt := (Array.getElem?_eq_some_iff.1 h).1
  exact World.cell?_of_block (a := ⟨b, 0, none⟩) ((grownBy_putObj' W l o').block b (by omega) (fun e => by have := Option.some.inj e; omega))

/-- The same for every loop body that keeps the set's own cell. -/
theorem vin_stopsC (F : Fence) (n : Nat) (h56 : F.fn 108) (hro : F.round = none) (hn : 1 ≤ n) (Bn : Nat) (s : Int) (w : World) (hBw : Bn < w.heap.size) (hc : w.cell? ⟨Bn, 0, none⟩ = some (.int .i64 s)) :
    SeqStopsK F n Try.prog 108 #[.pointer (some ⟨Bn, 0, none⟩)] (fun x : Mem s => #[.int .i64 (x.1 : Int)]) (KeepC Bn) (fun xs => xs.map (·.1) = memU s 7) (fun pre => pre.map (·.1) <+: memU s 7) 7 w := by
  intro l J Jx W hW hJ hJx hY h0
  exact vin_in F n h56 hro hn l Bn (KeepC Bn) (fun A B h => h) s J Jx hY W ((hW.cell (p := ⟨Bn, 0, none⟩) hBw).trans hc) h0

end Go.Proofs.Ytpifgmmmmhenmab
