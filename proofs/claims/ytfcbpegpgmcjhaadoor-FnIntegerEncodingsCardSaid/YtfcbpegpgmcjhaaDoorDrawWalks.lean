/- Walks over the drawing of arguments. -/
import Derived.Test.YtfcbpegpgmcjhaaDoorEvWalks
import Derived.Lib.Builder
import Derived.BigQuiet
import Derived.Deep.QuietTactic
import Derived.Deep.Draws
namespace Go.Proofs.YtfcbpegpgmcjhaaDoor
open Go.RowKit

/-- The bytes that the draws read: none, or a row below block B. -/
def Code (a : Option Addr) (len B : Nat) (w : World) : Prop :=
  len = 0 ∨ ∃ b off, a = some ⟨b, off, none⟩ ∧ b < B ∧ ∀ j, j < len → ∃ c : UInt8, w.cell? ⟨b, off + j, none⟩ = some (.int .u8 (c.toNat : Int))

/-- The cursor of the draws: block q of the call's own. -/
def Cur (a : Option Addr) (len cap B q : Nat) (w : World) : Prop :=
  Code a len B w ∧ B ≤ q ∧ ∃ (i : Nat) (h : Int), i ≤ len ∧ w.heap[q]? = some (.cells #[.slice a len cap, .int .i64 i, .int .i64 h] 60 (0, 0))

theorem Code.on {a : Option Addr} {len B : Nat} {w w' : World} (h : Code a len B w) (hk : ∀ k, k < B → w'.heap[k]? = w.heap[k]?) : Code a len B w' := by
  rcases h with h | ⟨b, off, rfl, hb, hc⟩
  · exact .inl h
  · refine .inr ⟨b, off, rfl, hb, fun j hj => ?_⟩
    obtain ⟨c, hcc⟩ := hc j hj
    exact ⟨c, by rw [← hcc]; exact World.cell?_of_block (hk b hb)⟩

theorem Cur.on {a : Option Addr} {len cap B q : Nat} {w w' : World} {row : Option Nat} (h : Cur a len cap B q w) (hg : w.grownBy w' row) (hq : row ≠ some q) (hr : ∀ k, row = some k → B ≤ k) (hB : B ≤ w.heap.size) : Cur a len cap B q w' := by
  obtain ⟨hc, hBq, i, hh, hi, hk⟩ := h
  have hlt : q < w.heap.size := by
    rcases Nat.lt_or_ge q w.heap.size with h' | h'
    · exact h'
    · simp [Array.getElem?_eq_none h'] at hk
  exact ⟨hc.on fun k hk => hg.block k (by omega) (fun e => by have := hr k e.symm; omega), hBq, i, hh, hi, by rw [hg.block q hlt (fun e => hq e.symm)]; exact hk⟩

theorem Cur.lt {a : Option Addr} {len cap B q : Nat} {w : World} (h : Cur a len cap B q w) : q < w.heap.size := by
  obtain ⟨_, _, i, hh, hi, hk⟩ := h
  rcases Nat.lt_or_ge q w.heap.size with h' | h'
  · exact h'
  · simp [Array.getElem?_eq_none h'] at hk

theorem and255 (x : Int) : ∃ n : Nat, n < 256 ∧ bits .and .i64 x 255 = (n : Int) := by
  refine ⟨(BitVec.ofInt 64 x &&& BitVec.ofInt 64 255).toNat, ?_, ?_⟩
  · rw [BitVec.toNat_and]
    have h : (BitVec.ofInt 64 255).toNat = 255 := by decide
    rw [h]
    exact Nat.lt_of_le_of_lt Nat.and_le_right (by omega)
  · have h : (BitVec.ofInt 64 x &&& BitVec.ofInt 64 255).toNat ≤ 255 := by
      rw [BitVec.toNat_and]
      have h : (BitVec.ofInt 64 255).toNat = 255 := by decide
      rw [h]
      exact Nat.and_le_right
    show IntKind.i64.wrap ((BitVec.ofInt 64 x &&& BitVec.ofInt 64 255).toNat : Int) = _
    exact IntWalk.i64_in _ (by omega)

theorem grown_set (w : World) (q j : Nat) (u : Value) : w.grownBy (w.setCell ⟨q, j, none⟩ u) (some q) :=
  ⟨rfl, rfl, rfl, by simp, fun k _ hk => Below.heap_setCell w ⟨q, j, none⟩ u k (fun e => hk (by rw [e]))⟩

theorem grown_trans {a b c : World} {row : Option Nat} (h : a.grownBy b row) (k : b.grownBy c row) : a.grownBy c row :=
  ⟨k.os.trans h.os, k.tape.trans h.tape, k.output.trans h.output, Nat.le_trans h.size k.size, fun i hi hr => (k.block i (Nat.lt_of_lt_of_le hi h.size) hr).trans (h.block i hi hr)⟩

theorem grown_refl (a : World) (row : Option Nat) : a.grownBy a row := ⟨rfl, rfl, rfl, Nat.le_refl _, fun _ _ _ => rfl⟩

theorem set_same {w : World} {q : Nat} {x y z : Value} (hk : w.heap[q]? = some (.cells #[x, y, z] 60 (0, 0))) (u : Value) :
    (w.setCell ⟨q, 2, none⟩ u).heap[q]? = some (.cells #[x, y, u] 60 (0, 0)) ∧ (w.setCell ⟨q, 1, none⟩ u).heap[q]? = some (.cells #[x, u, z] 60 (0, 0)) :=
  ⟨by rw [heap_setCell_same w q 2 _ _ u hk]; rfl, by rw [heap_setCell_same w q 1 _ _ u hk]; rfl⟩

def BytePost (a : Option Addr) (len cap B q : Nat) (w : World) (e : Ending) (w' : World) : Prop := ∃ x : Nat, x < 256 ∧ e = .returned (.int .i64 x) ∧ Cur a len cap B q w' ∧ w.grownBy w' (some q)

set_option maxHeartbeats 1000000 in
set_option maxRecDepth 100000 in
theorem l1Byte_any (a : Option Addr) (len cap B q : Nat) (w : World) (hl : len ≤ 1048576) (h : Cur a len cap B q w) (hB : B ≤ w.heap.size) :
    Calls Tryd.prog 34 #[.pointer (some ⟨q, 0, none⟩)] w (BytePost a len cap B q w) := by
  have hlt := h.lt
  obtain ⟨hcode, hBq, i, hh, hi, hk⟩ := h
  have c0 : w.cell? ⟨q, 0, none⟩ = some (.slice a len cap) := by rw [Lib.cell_of_heap hk]; rfl
  have c1 : w.cell? ⟨q, 1, none⟩ = some (.int .i64 i) := by rw [Lib.cell_of_heap hk]; rfl
  have c2 : w.cell? ⟨q, 2, none⟩ = some (.int .i64 hh) := by rw [Lib.cell_of_heap hk]; rfl
  have f1 := Lib.frozen_of_heap hk 1
  have f2 := Lib.frozen_of_heap hk 2
  by_cases hil : i < len
  · rcases hcode with h0 | ⟨b, off, rfl, hb, hc⟩
    · omega
    · obtain ⟨c, hcc⟩ := hc i hil
      have hbq : b ≠ q := by omega
      have hk2 := (set_same hk (.int .i64 (wrap64 (wrap64 (hh * 6364136223846793005) + 1442695040888963407)))).1
      have hk3 := (set_same hk2 (.int .i64 ((i : Int) + 1))).2
      have hcode : Code (some ⟨b, off, none⟩) len B w := .inr ⟨b, off, rfl, hb, hc⟩
      have hcur : Cur (some ⟨b, off, none⟩) len cap B q ((w.setCell ⟨q, 2, none⟩ (.int .i64 (wrap64 (wrap64 (hh * 6364136223846793005) + 1442695040888963407)))).setCell ⟨q, 1, none⟩ (.int .i64 ((i : Int) + 1))) :=
        ⟨(hcode.on fun k hk => Below.heap_setCell w _ _ k (by show k ≠ q; omega)).on fun k hk => Below.heap_setCell _ _ _ k (by show k ≠ q; omega), hBq, i + 1, _, by omega, by simpa using hk3⟩
      have hg := grown_trans (grown_set w q 2 (.int .i64 (wrap64 (wrap64 (hh * 6364136223846793005) + 1442695040888963407)))) (grown_set (w.setCell ⟨q, 2, none⟩ (.int .i64 (wrap64 (wrap64 (hh * 6364136223846793005) + 1442695040888963407)))) q 1 (.int .i64 ((i : Int) + 1)))
      have HC := Lib.hid hcur
      have HG := Lib.hid hg
      have hif : (i : Int) < len := by omega
      clear hcur hg hk2 hk3 hcode hc
      go_enter Tryd.func34, Tryd.ntmps34
      go_wp2
      go_quiet (fail)
      go_wp2
      go_quiet (fail)
      go_wp2
      go_quiet (fail)
      go_wp2
      go_ret
      obtain ⟨x, hx, hxe⟩ := and255 (wrap64 (bits .and .i64 (bits .xor .i64 (wrap64 (wrap64 (hh * 6364136223846793005) + 1442695040888963407) / 8589934592) (wrap64 (wrap64 (hh * 6364136223846793005) + 1442695040888963407) / 35184372088832)) 255 + wrap64 (c.toNat : Int)))
      exact ⟨x, hx, congrArg (fun z => Ending.returned (.int .i64 z)) hxe, HC.out, ⟨HG.out.os, HG.out.tape, HG.out.output, HG.out.size, HG.out.block⟩⟩
  · have hil' : (len : Int) ≤ i := by omega
    have hk2 := (set_same hk (.int .i64 (wrap64 (wrap64 (hh * 6364136223846793005) + 1442695040888963407)))).1
    have hcur : Cur a len cap B q (w.setCell ⟨q, 2, none⟩ (.int .i64 (wrap64 (wrap64 (hh * 6364136223846793005) + 1442695040888963407)))) :=
      ⟨hcode.on fun k hk => Below.heap_setCell w _ _ k (by show k ≠ q; omega), hBq, i, _, hi, hk2⟩
    have hg := grown_set w q 2 (.int .i64 (wrap64 (wrap64 (hh * 6364136223846793005) + 1442695040888963407)))
    have HC := Lib.hid hcur
    have HG := Lib.hid hg
    clear hcur hg hk2
    go_enter Tryd.func34, Tryd.ntmps34
    go_wp2
    go_quiet (fail)
    go_wp2
    go_quiet (fail)
    go_wp2
    go_ret
    obtain ⟨x, hx, hxe⟩ := and255 (bits .xor .i64 (wrap64 (wrap64 (hh * 6364136223846793005) + 1442695040888963407) / 8589934592) (wrap64 (wrap64 (hh * 6364136223846793005) + 1442695040888963407) / 35184372088832))
    exact ⟨x, hx, congrArg (fun z => Ending.returned (.int .i64 z)) hxe, HC.out, ⟨HG.out.os, HG.out.tape, HG.out.output, HG.out.size, HG.out.block⟩⟩

def NumPost (R : Int → Prop) (a : Option Addr) (len cap B q : Nat) (w : World) (e : Ending) (w' : World) : Prop := ∃ r : Int, R r ∧ e = .returned (.int .i64 r) ∧ Cur a len cap B q w' ∧ w.grownBy w' (some q)

def under (n r : Int) : Prop := 0 ≤ r ∧ (0 < n → r < n)

theorem emod_under (x n : Int) (h : 0 < n) : under n (x % n) := ⟨Int.emod_nonneg _ (by omega), fun _ => Int.emod_lt_of_pos _ h⟩

set_option maxHeartbeats 1000000 in
set_option maxRecDepth 100000 in
theorem l1Below_any (a : Option Addr) (len cap B q : Nat) (n : Int) (w : World) (hl : len ≤ 1048576) (h : Cur a len cap B q w) (hB : B ≤ w.heap.size) :
    Calls Tryd.prog 24 #[.pointer (some ⟨q, 0, none⟩), .int .i64 n] w (NumPost (under n) a len cap B q w) := by
  have HC := Lib.hid h
  clear h
  by_cases h0 : n ≤ 0
  · go_enter Tryd.func24, Tryd.ntmps24
    go_wp2_with fail
    go_ret
    exact ⟨0, ⟨by omega, fun h => by omega⟩, rfl, HC.out, grown_refl _ _⟩
  · by_cases h1 : n ≤ 256
    · have hn : 1 ≤ n := by omega
      go_enter Tryd.func24, Tryd.ntmps24
      go_wp2_with fail
      refine (l1Byte_any a len cap B q _ hl HC.out hB).mono ?_
      rintro e w1 ⟨x, hx, rfl, hc1, hg1⟩
      have HC1 := Lib.hid hc1
      have HG1 := Lib.hid hg1
      clear hc1 hg1
      go_wp2
      go_ret
      exact ⟨_, emod_under x n (by omega), rfl, HC1.out, HG1.out⟩
    · have hn : 256 < n := by omega
      go_enter Tryd.func24, Tryd.ntmps24
      go_wp2_with fail
      refine (l1Byte_any a len cap B q _ hl HC.out hB).mono ?_
      rintro e w1 ⟨x, hx, rfl, hc1, hg1⟩
      have hB1 : B ≤ w1.heap.size := Nat.le_trans hB hg1.size
      have HC1 := Lib.hid hc1
      have HG1 := Lib.hid hg1
      clear hc1 hg1
      go_wp2_with fail
      refine (l1Byte_any a len cap B q _ hl HC1.out hB1).mono ?_
      rintro e w2 ⟨y, hy, rfl, hc2, hg2⟩
      have hB2 : B ≤ w2.heap.size := Nat.le_trans hB1 hg2.size
      have HC2 := Lib.hid hc2
      have HG2 := Lib.hid (grown_trans HG1.out hg2)
      clear hc2 hg2
      go_wp2_with fail
      refine (l1Byte_any a len cap B q _ hl HC2.out hB2).mono ?_
      rintro e w3 ⟨z, hz, rfl, hc3, hg3⟩
      have hB3 : B ≤ w3.heap.size := Nat.le_trans hB2 hg3.size
      have HC3 := Lib.hid hc3
      have HG3 := Lib.hid (grown_trans HG2.out hg3)
      clear hc3 hg3
      go_wp2_with fail
      refine (l1Byte_any a len cap B q _ hl HC3.out hB3).mono ?_
      rintro e w4 ⟨v, hv, rfl, hc4, hg4⟩
      have HC4 := Lib.hid hc4
      have HG4 := Lib.hid (grown_trans HG3.out hg4)
      clear hc4 hg4
      go_wp2
      go_ret
      exact ⟨_, emod_under ((x : Int) * 16777216 + (y : Int) * 65536 + (z : Int) * 256 + (v : Int)) n (by omega), rfl, HC4.out, HG4.out⟩

/-- The list of fixed numbers, read by a drawn index: its n cells lie in a block of the call's own. -/
theorem l1PickInt_any (a : Option Addr) (len cap B q g n c : Nat) (w : World) (hl : len ≤ 1048576) (h : Cur a len cap B q w) (hB : B ≤ w.heap.size) (hn : 0 < n) (hn2 : n ≤ 1000) (hgq : g ≠ q) (hgl : g < w.heap.size)
    (hc : ∀ j, j < n → ∃ x : Int, -9223372036854775808 ≤ x ∧ x ≤ 9223372036854775807 ∧ w.cell? ⟨g, j, none⟩ = some (.int .i64 x)) :
    Calls Tryd.prog 33 #[.pointer (some ⟨q, 0, none⟩), .slice (some ⟨g, 0, none⟩) n c] w (NumPost (fun x => -9223372036854775808 ≤ x ∧ x ≤ 9223372036854775807) a len cap B q w) := by
  have HC := Lib.hid h
  have HX := Lib.hid hc
  clear h hc
  go_enter Tryd.func33, Tryd.ntmps33
  go_wp2_with fail
  refine (l1Below_any a len cap B q (n : Int) _ hl HC.out hB).mono ?_
  rintro e w1 ⟨r, ⟨hr0, hr1⟩, rfl, hc1, hg1⟩
  obtain ⟨j, rfl⟩ := Int.eq_ofNat_of_zero_le hr0
  have hj : j < n := by have := hr1 (by omega); omega
  obtain ⟨x, hx0, hx1, hcell⟩ := HX.out j hj
  have hcell1 : w1.cell? ⟨g, j, none⟩ = some (.int .i64 x) := by rw [← hcell]; exact World.cell?_of_block (hg1.block g hgl (fun e => hgq (Option.some.inj e)))
  have HC1 := Lib.hid hc1
  have HG1 := Lib.hid hg1
  clear hc1 hg1 hcell hr1 hr0
  go_wp2
  go_ret
  exact ⟨x, ⟨hx0, hx1⟩, rfl, HC1.out, HG1.out⟩

def inI64 (x : Int) : Prop := -9223372036854775808 ≤ x ∧ x ≤ 9223372036854775807
theorem wrap_in (x : Int) : inI64 (wrap64 x) := by unfold inI64 wrap64; omega

def numList : List Int := [-1, 0, 127, 128, 255, 256, 16383, 16384, 65535, 65536, 562949953421311, 562949953421312, 999999999, 1000000000, -999999999, 9223372036854775807, -9223372036854775808]
theorem numList_in : ∀ x ∈ numList, inI64 x := by unfold inI64 numList; decide
theorem numCells (w : World) (j : Nat) (hj : j < 17) : ∃ x : Int, -9223372036854775808 ≤ x ∧ x ≤ 9223372036854775807 ∧ (w.alloc (.cells (numList.map (Value.int .i64)).toArray 3)).cell? ⟨w.heap.size, j, none⟩ = some (.int .i64 x) := by
  have hj' : j < numList.length := hj
  have hin := numList_in numList[j] (List.getElem_mem _)
  refine ⟨numList[j], hin.1, hin.2, ?_⟩
  rw [Lib.cell_of_heap (heap_alloc_new w _)]
  simp [hj']

theorem grown_alloc (w : World) (o : Obj) (row : Option Nat) : w.grownBy (w.alloc o) row := ⟨rfl, rfl, rfl, by simp, fun k hk _ => Below.heap_alloc w o k hk⟩

set_option maxHeartbeats 1000000 in
set_option maxRecDepth 100000 in
theorem l1Num_any (a : Option Addr) (len cap B q : Nat) (w : World) (hl : len ≤ 1048576) (h : Cur a len cap B q w) (hB : B ≤ w.heap.size) :
    Calls Tryd.prog 22 #[.pointer (some ⟨q, 0, none⟩)] w (NumPost inI64 a len cap B q w) := by
  have HC := Lib.hid h
  clear h
  go_enter Tryd.func22, Tryd.ntmps22
  go_wp2_with fail
  refine (l1Below_any a len cap B q 8 _ hl HC.out hB).mono ?_
  rintro e w1 ⟨r, ⟨hr0, hr1⟩, rfl, hc1, hg1⟩
  have hr8 : r < 8 := hr1 (by omega)
  have hB1 : B ≤ w1.heap.size := Nat.le_trans hB hg1.size
  have hq1 := hc1.lt
  have HC1 := Lib.hid hc1
  have HG1 := Lib.hid hg1
  clear hc1 hg1 hr1
  by_cases h0 : r = 0
  · subst h0
    have HC1' : Hid (Cur a len cap B q (w1.alloc (.cells (numList.map (Value.int .i64)).toArray 3))) := HC1.out.on (row := none) (grown_alloc w1 _ none) (by simp) (by simp) hB1
    have HN := Lib.hid (numCells w1)
    go_wp2_with fail
    refine (l1PickInt_any a len cap B q w1.heap.size 17 17 _ hl HC1'.out (by simp; omega) (by decide) (by decide) (by omega) (by simp) HN.out).mono ?_
    rintro e w2 ⟨x, hx, rfl, hc2, hg2⟩
    have HC2 := Lib.hid hc2
    have HG2 := Lib.hid (grown_trans HG1.out (grown_trans (grown_alloc w1 _ _) hg2))
    clear hc2 hg2
    go_wp2
    go_ret
    exact ⟨x, hx, rfl, HC2.out, HG2.out⟩
  · have hz0 : (r == 0) = false := by rw [beq_eq_false_iff_ne]; exact h0
    by_cases h1 : r = 1
    · subst h1
      clear h0
      go_wp2_with fail
      refine (l1Below_any a len cap B q 1000000000 _ hl HC1.out hB1).mono ?_
      rintro e w2 ⟨x, ⟨hx0, hx1⟩, rfl, hc2, hg2⟩
      have hB2 : B ≤ w2.heap.size := Nat.le_trans hB1 hg2.size
      have HC2 := Lib.hid hc2
      have HG2 := Lib.hid (grown_trans HG1.out hg2)
      clear hc2 hg2 hx1
      go_wp2_with fail
      refine (l1Below_any a len cap B q 1000000000 _ hl HC2.out hB2).mono ?_
      rintro e w3 ⟨y, ⟨hy0, hy1⟩, rfl, hc3, hg3⟩
      have HC3 := Lib.hid hc3
      have HG3 := Lib.hid (grown_trans HG2.out hg3)
      clear hc3 hg3 hy1
      go_wp2
      go_ret
      exact ⟨_, wrap_in (x * y), rfl, HC3.out, HG3.out⟩
    · have hz1 : (r == 1) = false := by rw [beq_eq_false_iff_ne]; exact h1
      by_cases h2 : r = 2
      · subst h2
        clear h0 h1
        go_wp2_with fail
        refine (l1Below_any a len cap B q 100000 _ hl HC1.out hB1).mono ?_
        rintro e w2 ⟨x, ⟨hx0, hx1⟩, rfl, hc2, hg2⟩
        have hx2 := hx1 (by omega)
        have HC2 := Lib.hid hc2
        have HG2 := Lib.hid (grown_trans HG1.out hg2)
        clear hc2 hg2 hx1
        go_wp2
        go_ret
        exact ⟨-x, ⟨by omega, by omega⟩, rfl, HC2.out, HG2.out⟩
      · have hz2 : (r == 2) = false := by rw [beq_eq_false_iff_ne]; exact h2
        clear h0 h1 h2
        go_wp2_with fail
        refine (l1Below_any a len cap B q 70000 _ hl HC1.out hB1).mono ?_
        rintro e w2 ⟨x, ⟨hx0, hx1⟩, rfl, hc2, hg2⟩
        have hx2 := hx1 (by omega)
        have HC2 := Lib.hid hc2
        have HG2 := Lib.hid (grown_trans HG1.out hg2)
        clear hc2 hg2 hx1
        go_wp2
        go_ret
        exact ⟨x, ⟨by omega, by omega⟩, rfl, HC2.out, HG2.out⟩

theorem grown_new {w w1 w2 : World} {row row2 : Option Nat} (h : w.grownBy w1 row) (k : w1.grownBy w2 row2) (hr : ∀ g, row2 = some g → w.heap.size ≤ g) : w.grownBy w2 row :=
  ⟨k.os.trans h.os, k.tape.trans h.tape, k.output.trans h.output, Nat.le_trans h.size k.size, fun i hi hne => (k.block i (Nat.lt_of_lt_of_le hi h.size) (fun e => by have := hr i e.symm; omega)).trans (h.block i hi hne)⟩

def TextPost (most : Nat) (a : Option Addr) (len cap B q : Nat) (w : World) (e : Ending) (w' : World) : Prop := ∃ l : List UInt8, l.length ≤ most ∧ e = .returned (.string ⟨l.toArray⟩) ∧ Cur a len cap B q w' ∧ w.grownBy w' (some q)

set_option maxHeartbeats 2000000 in
set_option maxRecDepth 100000 in
theorem l1Text_any (most : Nat) (a : Option Addr) (len cap B q : Nat) (w : World) (hm : most ≤ 1000) (hl : len ≤ 1048576) (h : Cur a len cap B q w) (hB : B ≤ w.heap.size) :
    Calls Tryd.prog 23 #[.pointer (some ⟨q, 0, none⟩), .int .i64 most] w (TextPost most a len cap B q w) := by
  obtain ⟨i0, hi0, hz0, hz1, hz2⟩ := info_parts infoByte
  have hq := h.lt
  have HC0 : Hid (Cur a len cap B q (w.alloc (.cells #[] 5))) := h.on (row := none) (grown_alloc w _ none) (by simp) (by simp) hB
  clear h
  have hkeep : ∀ (v : Value) {W : World} {n : Nat} {xs : List Value}, W.ownsRow w.heap.size 5 1 v n xs → v.ownBlock = none ∨ v.ownBlock ≠ some q := fun v W n xs ho => .inr fun e => by have := (ho.lt q e).1; omega
  have hkeep2 : ∀ (v : Value) {W : World} {n : Nat} {xs : List Value}, W.ownsRow w.heap.size 5 1 v n xs → v.ownBlock ≠ some q := fun v W n xs ho e => by have := (ho.lt q e).1; omega
  have HK := Lib.hid (show (w.alloc (.cells #[] 5)).ownsRow w.heap.size 5 1 (.slice (some ⟨w.heap.size, 0, none⟩) 0 0) 0 (Lib.byteCells []) from World.ownsRow_lit w #[] 0 (Nat.le_refl _) (by simp [maxLen]) rfl)
  go_enter Tryd.func23, Tryd.ntmps23
  go_wp2_with fail
  refine (l1Below_any a len cap B q 4 _ hl HC0.out (by simp; omega)).mono ?_
  rintro e w1 ⟨r, ⟨hr0, hr1⟩, rfl, hc1, hg1⟩
  have HK1 := Lib.hid (HK.out.kept hg1 (hkeep _ HK.out))
  have HC1 := Lib.hid hc1
  have hB1 : B ≤ w1.heap.size := by have := hg1.size; simp at this; omega
  have HG1 := Lib.hid (grown_trans (grown_alloc w _ (some q)) hg1)
  clear hc1 hg1
  go_wp2_with fail
  refine (l1Below_any a len cap B q ((most : Int) + 1) _ hl HC1.out hB1).mono ?_
  rintro e w2 ⟨t, ⟨ht0, ht1⟩, rfl, hc2, hg2⟩
  have ht2 : t ≤ most := by have := ht1 (by omega); omega
  obtain ⟨m0, rfl⟩ := Int.eq_ofNat_of_zero_le ht0
  have HK2 := Lib.hid (HK1.out.kept hg2 (hkeep _ HK1.out))
  have HC2 := Lib.hid hc2
  have HG2 := Lib.hid (grown_trans HG1.out hg2)
  clear hc2 hg2 ht0 ht1 hr1
  have LOOP : True := trivial
  go_wp2
  go_loopw [5, 7, 8] (fun v n _ wr => ∃ (m : Nat) (p : List UInt8), n = .int .i64 m ∧ p.length + m ≤ most ∧ wr.ownsRow w.heap.size 5 1 v p.length (Lib.byteCells p) ∧ v ≠ .slice none 0 0 ∧ Hid (Cur a len cap B q wr) ∧ Hid (w.grownBy wr (some q))) (fun _ n _ _ => (intOf n).toNat)
  case atStart => exact ⟨m0, [], rfl, by simp; omega, HK2.out, by simp, HC2, HG2⟩
  case round =>
    obtain ⟨m, p, rfl, hpm, hown, hv0, HC, HG⟩ := hrel
    have hsr : w.heap.size ≤ wr.heap.size := HG.out.size
    have hBr : B ≤ wr.heap.size := by omega
    by_cases h0 : 0 < m
    · have h0' : (0 : Int) < m := by omega
      by_cases s1 : r = 1
      · subst s1
        go_wp2_with fail
        refine (l1Byte_any a len cap B q _ hl HC.out hBr).mono ?_
        rintro e w2 ⟨x, hx, rfl, hc2, hg2⟩
        have hown2 := hown.kept hg2 (hkeep _ hown)
        have HC2 := Lib.hid hc2
        have HG2 := Lib.hid (grown_trans HG.out hg2)
        have hB2 : B ≤ w2.heap.size := Nat.le_trans hBr hg2.size
        have hs2 : w.heap.size ≤ w2.heap.size := Nat.le_trans hsr hg2.size
        clear hc2 hg2 hown
        go_wp2_with (at_builtin; refine wpList_append_byte_g rfl (.tmp 31) (.tmp 34) 22 rfl w.heap.size 5 i0 (.int .u8 0) Tryd.underlying22 hi0 hz0 hz1 hz2 rfl _ p rfl hown2 ((x : Int) % 2) (by omega) (by omega) rfl (by omega) hs2 ?_)
        intro v3 w3 p3 hp3 hown3 hg3 hv3
        have HC3 := Lib.hid ((HC2.out.on (grown_alloc w2 _ none) (by simp) (by simp) hB2).on hg3 (hkeep2 _ hown2) (fun k hk => by have := (hown2.lt k hk).1; omega) (by simp; omega))
        have HG3 := Lib.hid (grown_new (grown_trans HG2.out (grown_alloc w2 _ _)) hg3 fun k hk => (hown2.lt k hk).1)
        have hp3l : p3.length = p.length + 1 := by rw [hp3.out]; simp
        clear hg3 hown2
        go_wp2
        go_roundw
        case rel => exact ⟨m - 1, p3, by go_num, by omega, hown3, hv3, HC3, HG3⟩
        case measure => simp [intOf]; omega
      · have z1 : (r == 1) = false := by rw [beq_eq_false_iff_ne]; exact s1
        by_cases s2 : r = 2
        · subst s2
          go_wp2_with fail
          refine (l1Byte_any a len cap B q _ hl HC.out hBr).mono ?_
          rintro e w2 ⟨x, hx, rfl, hc2, hg2⟩
          have hown2 := hown.kept hg2 (hkeep _ hown)
          have HC2 := Lib.hid hc2
          have HG2 := Lib.hid (grown_trans HG.out hg2)
          have hB2 : B ≤ w2.heap.size := Nat.le_trans hBr hg2.size
          have hs2 : w.heap.size ≤ w2.heap.size := Nat.le_trans hsr hg2.size
          clear hc2 hg2 hown
          go_wp2_with (at_builtin; refine wpList_append_byte_g rfl (.tmp 31) (.tmp 34) 22 rfl w.heap.size 5 i0 (.int .u8 0) Tryd.underlying22 hi0 hz0 hz1 hz2 rfl _ p rfl hown2 (97 + (x : Int) % 4) (by omega) (by omega) rfl (by omega) hs2 ?_)
          intro v3 w3 p3 hp3 hown3 hg3 hv3
          have HC3 := Lib.hid ((HC2.out.on (grown_alloc w2 _ none) (by simp) (by simp) hB2).on hg3 (hkeep2 _ hown2) (fun k hk => by have := (hown2.lt k hk).1; omega) (by simp; omega))
          have HG3 := Lib.hid (grown_new (grown_trans HG2.out (grown_alloc w2 _ _)) hg3 fun k hk => (hown2.lt k hk).1)
          have hp3l : p3.length = p.length + 1 := by rw [hp3.out]; simp
          clear hg3 hown2
          go_wp2
          go_roundw
          case rel => exact ⟨m - 1, p3, by go_num, by omega, hown3, hv3, HC3, HG3⟩
          case measure => simp [intOf]; omega
        · have z2 : (r == 2) = false := by rw [beq_eq_false_iff_ne]; exact s2
          clear s1 s2
          go_wp2_with fail
          refine (l1Byte_any a len cap B q _ hl HC.out hBr).mono ?_
          rintro e w2 ⟨x, hx, rfl, hc2, hg2⟩
          have hown2 := hown.kept hg2 (hkeep _ hown)
          have HC2 := Lib.hid hc2
          have HG2 := Lib.hid (grown_trans HG.out hg2)
          have hB2 : B ≤ w2.heap.size := Nat.le_trans hBr hg2.size
          have hs2 : w.heap.size ≤ w2.heap.size := Nat.le_trans hsr hg2.size
          clear hc2 hg2 hown
          go_wp2_with (at_builtin; refine wpList_append_byte_g rfl (.tmp 31) (.tmp 34) 22 rfl w.heap.size 5 i0 (.int .u8 0) Tryd.underlying22 hi0 hz0 hz1 hz2 rfl _ p rfl hown2 (x : Int) (by omega) (by omega) rfl (by omega) hs2 ?_)
          intro v3 w3 p3 hp3 hown3 hg3 hv3
          have HC3 := Lib.hid ((HC2.out.on (grown_alloc w2 _ none) (by simp) (by simp) hB2).on hg3 (hkeep2 _ hown2) (fun k hk => by have := (hown2.lt k hk).1; omega) (by simp; omega))
          have HG3 := Lib.hid (grown_new (grown_trans HG2.out (grown_alloc w2 _ _)) hg3 fun k hk => (hown2.lt k hk).1)
          have hp3l : p3.length = p.length + 1 := by rw [hp3.out]; simp
          clear hg3 hown2
          go_wp2
          go_roundw
          case rel => exact ⟨m - 1, p3, by go_num, by omega, hown3, hv3, HC3, HG3⟩
          case measure => simp [intOf]; omega
    · obtain rfl : m = 0 := by omega
      obtain ⟨g, cp, rfl, hcv⟩ := own_string (P := Tryd.prog) (src := 22) (dst := 9) hown hv0 Tryd.underlying22 Tryd.underlying5 Tryd.underlying9
      go_wp2
      go_ret
      exact ⟨p, by omega, rfl, HC.out, HG.out⟩

def NewPost (a : Option Addr) (len cap B : Nat) (w : World) (e : Ending) (w' : World) : Prop := ∃ q, e = .returned (.pointer (some ⟨q, 0, none⟩)) ∧ Cur a len cap B q w' ∧ w.grownBy w' none

set_option maxHeartbeats 1000000 in
set_option maxRecDepth 100000 in
theorem l1New_any (a : Option Addr) (len cap B : Nat) (w : World) (hl : len ≤ 1048576) (hcode : Code a len B w) (hB : B ≤ w.heap.size) :
    Calls Tryd.prog 21 #[.slice a len cap] w (NewPost a len cap B w) := by
  have HC := Lib.hid hcode
  clear hcode
  go_enter Tryd.func21, Tryd.ntmps21
  go_wp2
  go_loop [3, 4] (fun h i => ∃ (n : Nat) (x : Int), n ≤ len ∧ i = .int .i64 n ∧ h = .int .i64 x) (fun _ i => len - (intOf i).toNat)
  case atStart => exact ⟨0, _, by omega, rfl, rfl⟩
  case round =>
    obtain ⟨n, x, hn, rfl, rfl⟩ := hrel
    by_cases hlt : n < len ∧ n < 4000
    · obtain ⟨h1, h2⟩ := hlt
      rcases HC.out with h0 | ⟨b, off, rfl, hb, hc⟩
      · omega
      · obtain ⟨c, hcc⟩ := hc n h1
        clear hc
        have h1' : (n : Int) < len := by omega
        go_wp2
        go_round
        case rel => exact ⟨n + 1, _, by omega, by go_num, rfl⟩
        case measure => simp [intOf]; omega
    · by_cases h1 : n < len
      · have h2 : (4000 : Int) ≤ n := by omega
        have h1' : (n : Int) < len := by omega
        have hd : decide ((n : Int) < 4000) = false := by simp; omega
        clear hlt
        go_wp2
        go_ret
        exact ⟨w.heap.size, rfl, ⟨HC.out.on fun k hk => Below.heap_alloc w _ k (by omega), hB, 0, x, by omega, heap_alloc_new w _⟩, grown_alloc w _ none⟩
      · have h2 : (len : Int) ≤ n := by omega
        clear hlt
        go_wp2
        go_ret
        exact ⟨w.heap.size, rfl, ⟨HC.out.on fun k hk => Below.heap_alloc w _ k (by omega), hB, 0, x, by omega, heap_alloc_new w _⟩, grown_alloc w _ none⟩

theorem below_of_grown {B q : Nat} {w w1 w2 : World} (h : w.grownBy w1 none) (k : w1.grownBy w2 (some q)) (hB : B ≤ q) (hw : B ≤ w.heap.size) : Below B w w2 :=
  ⟨k.os.trans h.os, k.tape.trans h.tape, k.output.trans h.output, Nat.le_trans h.size k.size, fun i hi => (k.block i (by have := h.size; omega) (fun e => by have := Option.some.inj e; omega)).trans (h.block i (by omega) (by simp))⟩

def DrawPost (R : Value → Prop) (B : Nat) (w : World) (e : Ending) (w' : World) : Prop := ∃ v, R v ∧ e = .returned v ∧ Below B w w'

theorem drawEV (a : Option Addr) (len cap B : Nat) (w : World) (hl : len ≤ 1048576) (hcode : Code a len B w) (hB : B ≤ w.heap.size) :
    Calls Tryd.prog 7 #[.slice a len cap] w (DrawPost (fun v => ∃ n, inI64 n ∧ v = .int .i64 n) B w) := by
  have HC := Lib.hid hcode
  clear hcode
  go_enter Tryd.func7, Tryd.ntmps7
  go_wp2_with fail
  refine (l1New_any a len cap B _ hl HC.out hB).mono ?_
  rintro e w1 ⟨q, rfl, hc1, hg1⟩
  have HC1 := Lib.hid hc1
  have HG1 := Lib.hid hg1
  have hB1 : B ≤ w1.heap.size := Nat.le_trans hB hg1.size
  clear hc1 hg1
  go_wp2_with fail
  refine (l1Num_any a len cap B q _ hl HC1.out hB1).mono ?_
  rintro e w2 ⟨n, hn, rfl, hc2, hg2⟩
  have HN := Lib.hid hn
  have HB := Lib.hid (below_of_grown HG1.out hg2 HC1.out.2.1 hB)
  clear hn hc2 hg2
  go_wp2
  go_ret
  exact ⟨_, ⟨n, HN.out, rfl⟩, rfl, HB.out⟩

theorem drawEH (a : Option Addr) (len cap B : Nat) (w : World) (hl : len ≤ 1048576) (hcode : Code a len B w) (hB : B ≤ w.heap.size) :
    Calls Tryd.prog 8 #[.slice a len cap] w (DrawPost (fun v => ∃ l : List UInt8, l.length ≤ 40 ∧ v = .string ⟨l.toArray⟩) B w) := by
  have HC := Lib.hid hcode
  clear hcode
  go_enter Tryd.func8, Tryd.ntmps8
  go_wp2_with fail
  refine (l1New_any a len cap B _ hl HC.out hB).mono ?_
  rintro e w1 ⟨q, rfl, hc1, hg1⟩
  have HC1 := Lib.hid hc1
  have HG1 := Lib.hid hg1
  have hB1 : B ≤ w1.heap.size := Nat.le_trans hB hg1.size
  clear hc1 hg1
  go_wp2_with fail
  refine (l1Text_any 40 a len cap B q _ (by decide) hl HC1.out hB1).mono ?_
  rintro e w2 ⟨l, hn, rfl, hc2, hg2⟩
  have HN := Lib.hid hn
  have HB := Lib.hid (below_of_grown HG1.out hg2 HC1.out.2.1 hB)
  clear hn hc2 hg2
  go_wp2
  go_ret
  exact ⟨_, ⟨l, HN.out, rfl⟩, rfl, HB.out⟩

theorem drawEF (a : Option Addr) (len cap B : Nat) (w : World) (hl : len ≤ 1048576) (hcode : Code a len B w) (hB : B ≤ w.heap.size) :
    Calls Tryd.prog 11 #[.slice a len cap] w (DrawPost (fun v => ∃ n k, inI64 n ∧ -1 ≤ k ∧ k ≤ 8 ∧ v = .tuple #[.int .i64 n, .int .i64 k]) B w) := by
  have HC := Lib.hid hcode
  clear hcode
  go_enter Tryd.func11, Tryd.ntmps11
  go_wp2_with fail
  refine (l1New_any a len cap B _ hl HC.out hB).mono ?_
  rintro e w1 ⟨q, rfl, hc1, hg1⟩
  have HC1 := Lib.hid hc1
  have HG1 := Lib.hid hg1
  have hB1 : B ≤ w1.heap.size := Nat.le_trans hB hg1.size
  clear hc1 hg1
  go_wp2_with fail
  refine (l1Num_any a len cap B q _ hl HC1.out hB1).mono ?_
  rintro e w2 ⟨n, hn, rfl, hc2, hg2⟩
  have HN := Lib.hid hn
  have HC2 := Lib.hid hc2
  have HG2 := Lib.hid hg2
  have hB2 : B ≤ w2.heap.size := Nat.le_trans hB1 hg2.size
  clear hn hc2 hg2
  go_wp2_with fail
  refine (l1Below_any a len cap B q 10 _ hl HC2.out hB2).mono ?_
  rintro e w3 ⟨k, ⟨hk0, hk1⟩, rfl, hc3, hg3⟩
  have hk2 : k < 10 := hk1 (by omega)
  have HB := Lib.hid (below_of_grown HG1.out (grown_trans HG2.out hg3) HC1.out.2.1 hB)
  clear hk1 hc3 hg3
  go_wp2
  go_ret2
  exact ⟨_, ⟨n, k - 1, HN.out, by omega, by omega, rfl⟩, rfl, HB.out⟩
end Go.Proofs.YtfcbpegpgmcjhaaDoor
