/- A strings.Builder of the call's own. -/
import Derived.Test.YtcpchdnhhjhpaacDoorShelf
import Derived.Test.YtcpchdnhhjhpaacDoorGl
import Derived.Test.YtcpchdnhhjhpaacDoorS1
import Derived.Lib.Builder
import Derived.Shelf.Strings.Builder1
import Derived.WalkMore
import Derived.Lib.LaidTab
import Derived.Lib.AppendIntMem
namespace Go.Proofs.YtcpchdnhhjhpaacDoor
set_option linter.unusedVariables false
set_option linter.unusedSimpArgs false
open Go.RowKit

/-- Nothing below lo has turned but block b. -/
structure FrB (lo b : Nat) (w w' : World) : Prop where
  os : w'.os = w.os
  tape : w'.tape = w.tape
  output : w'.output = w.output
  size : w.heap.size ≤ w'.heap.size
  block : ∀ k, k < lo → k ≠ b → w'.heap[k]? = w.heap[k]?

theorem FrB.trans {lo b : Nat} {w1 w2 w3 : World} (h : FrB lo b w1 w2) (k : FrB lo b w2 w3) : FrB lo b w1 w3 :=
  ⟨k.os.trans h.os, k.tape.trans h.tape, k.output.trans h.output, Nat.le_trans h.size k.size, fun i hi hb => (k.block i hi hb).trans (h.block i hi hb)⟩

theorem FrB.below {lo b B : Nat} {w w' : World} (h : FrB lo b w w') (h1 : B ≤ lo) (h2 : B ≤ b) : Below B w w' := ⟨h.os, h.tape, h.output, h.size, fun k hk => h.block k (by omega) (by omega)⟩

theorem FrB.ownI {lo b B : Nat} {w w' : World} {v : Value} {l : List Int} (h : FrB lo b w w') (ho : OwnI B w v l) (hB : b < B) (hh : ∀ k, v.ownBlock = some k → k < lo) : OwnI B w' v l :=
  ho.block fun k hk => h.block k (hh k hk) (by have := (ho.lt k hk).1; omega)

theorem FrB.ownII {lo b B hi : Nat} {w w' : World} {v : Value} {ll : List (List Int)} (h : FrB lo b w w') (ho : OwnII B hi w v ll) (hB : b < B) (hh : hi ≤ lo) : OwnII B hi w' v ll := by
  obtain ⟨vs, h1, h2, h3, h4, h5, h6⟩ := ho
  refine ⟨vs, h1, ownsRow_block h2 fun k hk => ?_, fun i hi' => (h3 i hi').block fun k hk => ?_, h4, h5, h6⟩
  · have := h2.lt k hk
    have := h5 k hk
    exact h.block k (by omega) (by omega)
  · have := (h3 i hi').lt k hk
    have := h4 i k hi' hk
    exact h.block k (by omega) (by omega)

/-- The builder in block b, its first cell p, holds the bytes l; its buffer lies at lo or beyond. -/
def BuP (p : Value) (lo b : Nat) (l : List UInt8) (w : World) : Prop :=
  ∃ v, w.heap[b]? = some (.cells #[p, v] 61 (0, 0)) ∧ w.ownsRow lo 5 1 v (Lib.byteCells l).length (Lib.byteCells l) ∧ v.ownBlock ≠ some b ∧ b < lo

def Bu (lo b : Nat) (l : List UInt8) (w : World) : Prop := BuP (.pointer none) lo b l w ∨ BuP (.pointer (some ⟨b, 0, none⟩)) lo b l w

theorem BuP.keep {p : Value} {lo b : Nat} {l : List UInt8} {w w' : World} (h : BuP p lo b l w) (hb : Below w.heap.size w w') : BuP p lo b l w' := by
  obtain ⟨v, h1, h2, h3, h4⟩ := h
  have hlt : b < w.heap.size := (Array.getElem?_eq_some_iff.1 h1).1
  refine ⟨v, (hb.block b hlt).trans h1, h2.kept (below_grown hb) ?_, h3, h4⟩
  cases hv : v.ownBlock with
  | none => exact .inl rfl
  | some k => exact .inr (by simp)

theorem Bu.on {lo b : Nat} {l : List UInt8} {w w' : World} (h : Bu lo b l w) (hb : Below w.heap.size w w') : Bu lo b l w' := h.elim (fun h => .inl (h.keep hb)) fun h => .inr (h.keep hb)

/-- A fresh one: its buffer may be said to lie at any lo. -/
theorem Bu.fresh {b lo : Nat} {w : World} (h : w.heap[b]? = some (.cells #[.pointer none, .slice none 0 0] 61 (0, 0))) (hb : b < lo) : Bu lo b [] w :=
  .inl ⟨.slice none 0 0, h, World.ownsRow_nil _ _ _ _, by simp [Value.ownBlock], hb⟩

theorem infoByte' : (Tryd.prog.info? 5).map (fun i => (i.zero, i.size, i.bytes)) = some (some (.int .u8 0), 1, 1) := by kernel_rfl

theorem copyCheckUsed (b : Nat) (w : World) (c0 : w.cell? ⟨b, 0, none⟩ = some (.pointer (some ⟨b, 0, none⟩))) :
    Calls Tryd.prog 69 #[.pointer (some ⟨b, 0, none⟩)] w fun e w' => e = .returned (.tuple #[]) ∧ w' = w := by
  obtain ⟨j, hj⟩ := Option.isSome_iff_exists.1 (show (Tryd.prog.info? 61).isSome = true by kernel_rfl)
  have hne := fun W : World => Lib.run_neq_ptr_same (P := Tryd.prog) (w := W) ⟨b, 0, none⟩ Tryd.underlying58 hj
  go_enter Tryd.func69, Tryd.ntmps69
  go_wp2
  go_end0
  exact ⟨rfl, rfl⟩

set_option maxHeartbeats 1000000 in
set_option maxRecDepth 100000 in
theorem copyCheckFresh (b : Nat) (w : World) (h0 : w.cell? ⟨b, 0, none⟩ = some (.pointer none)) (hsh : w.shape? b = some (61, 2)) (hfz : w.frozen? ⟨b, 0, none⟩ = false) :
    Calls Tryd.prog 69 #[.pointer (some ⟨b, 0, none⟩)] w fun e w' => e = .returned (.tuple #[]) ∧ w' = w.setCell ⟨b, 0, none⟩ (.pointer (some ⟨b, 0, none⟩)) := by
  obtain ⟨j, hj, hjs⟩ := Option.map_eq_some_iff.1 (show (Tryd.prog.info? 61).map (·.size) = some 2 by kernel_rfl)
  go_enter Tryd.func69, Tryd.ntmps69
  go_wp2
  rw [Lib.run_to_unsafe w ⟨b, 0, none⟩ Tryd.underlying58 Tryd.underlying104 hj (by rw [hjs]; decide) hsh (Nat.zero_lt_succ 1)]
  simp only [Result.andThen]
  rw [Oper.upon_value]
  go_wp2
  rw [run_callFunc_extern Tryd.func83 (by kernel_rfl) (by kernel_rfl) (by kernel_rfl) (e := Extern.AbiNoEscape.same) (by kernel_rfl)]
  rw [Lib.run_noEscape]
  simp only [Result.andThen]
  rw [Oper.upon_value]
  go_wp2
  rw [Lib.run_from_unsafe w ⟨b, 0, none⟩ Tryd.underlying104 Tryd.underlying58 hj hsh (show liesAt Tryd.prog Tryd.prog.depth 61 (2 / Tryd.prog.cellsOf 61) 0 61 1 = true by kernel_rfl)]
  simp only [Result.andThen]
  rw [Oper.upon_value]
  go_wp2
  go_end0
  exact ⟨rfl, rfl⟩

theorem copyCheckAny (lo b : Nat) (l : List UInt8) (w : World) (h : Bu lo b l w) :
    Calls Tryd.prog 69 #[.pointer (some ⟨b, 0, none⟩)] w fun e w' => e = .returned (.tuple #[]) ∧ (BuP (.pointer (some ⟨b, 0, none⟩)) lo b l w' ∧ FrB lo b w w') := by
  rcases h with ⟨v, h1, h2, h3, h4⟩ | ⟨v, h1, h2, h3, h4⟩
  · refine (copyCheckFresh b w (by rw [Lib.cell_of_heap h1]; rfl) (by simp [World.shape?, h1]) (Lib.frozen_of_heap h1 0)).mono ?_
    rintro e w' ⟨rfl, rfl⟩
    have hg : w.grownBy (w.setCell ⟨b, 0, none⟩ (.pointer (some ⟨b, 0, none⟩))) (some b) := ⟨rfl, rfl, rfl, by simp [World.setCell], fun k _ hk => Below.heap_setCell _ _ _ _ (fun e => hk (by simp [e]))⟩
    refine ⟨rfl, ⟨v, ?_, h2.kept hg (.inr h3), h3, h4⟩, hg.os, hg.tape, hg.output, hg.size, fun k hk hkb => Below.heap_setCell _ _ _ _ hkb⟩
    simp [World.setCell, Array.getElem?_modify, h1]
  · refine (copyCheckUsed b w (by rw [Lib.cell_of_heap h1]; rfl)).mono ?_
    rintro e w' ⟨rfl, rfl⟩
    exact ⟨rfl, ⟨v, h1, h2, h3, h4⟩, rfl, rfl, rfl, Nat.le_refl _, fun _ _ _ => rfl⟩

set_option maxHeartbeats 2000000 in
set_option maxRecDepth 100000 in
theorem writeS (lo b : Nat) (l s : List UInt8) (w : World) (h : Bu lo b l w) (hl : l.length + s.length ≤ 1000000) (hlo : lo ≤ w.heap.size) :
    Calls Tryd.prog 40 #[.pointer (some ⟨b, 0, none⟩), .string ⟨s.toArray⟩] w fun e w' => e = .returned (.tuple #[.int .i64 (s.length : Int), .nilIface]) ∧ Bu lo b (l ++ s) w' ∧ FrB lo b w w' := by
  obtain ⟨i0, hi, hz0, hz1, hz2⟩ := info_parts infoByte'
  have hs : (⟨s.toArray⟩ : ByteArray).size = s.length := by show s.toArray.size = _; simp
  have hbl : (Lib.byteCells l).length = l.length := Lib.byteCells_length l
  have HH := Lib.hid h
  obtain ⟨S, hS⟩ : ∃ S : ByteArray, S = ⟨s.toArray⟩ := ⟨_, rfl⟩
  rw [← hS] at hs ⊢
  have HS := Lib.hid hS
  clear hS h
  go_enter Tryd.func40, Tryd.ntmps40
  go_wp2_with fail
  refine (copyCheckAny lo b l _ HH.out).mono ?_
  rintro e w1 ⟨rfl, ⟨v, hbk, hown, hne, hblo⟩, hf1⟩
  have c0 : w1.cell? ⟨b, 0, none⟩ = some (.pointer (some ⟨b, 0, none⟩)) := by rw [Lib.cell_of_heap hbk]; rfl
  have c1 : w1.cell? ⟨b, 1, none⟩ = some v := by rw [Lib.cell_of_heap hbk]; rfl
  have HF1 := Lib.hid hf1
  clear hf1
  go_wp2_with (at_builtin; refine Lib.wpList_append_own_string _ rfl _ _ 59 9 rfl lo 5 i0 Tryd.underlying59 Tryd.underlying9 hi hz0 hz1 hz2 _ _ _ rfl hown S rfl ?c3 ?c4 ?c5 ?_)
  case c3 => unfold maxLen; omega
  case c4 => omega
  case c5 => have := HF1.out.size; omega
  intro v' w2 hown' hgrow _
  have hlt : b < w1.heap.size := (Array.getElem?_eq_some_iff.1 hbk).1
  have hb2 : w2.heap[b]? = some (.cells #[.pointer (some ⟨b, 0, none⟩), v] 61 (0, 0)) := by
    rw [hgrow.block b hlt (fun e => hne e.symm)]
    exact hbk
  have d0 : w2.cell? ⟨b, 0, none⟩ = some (.pointer (some ⟨b, 0, none⟩)) := by rw [Lib.cell_of_heap hb2]; rfl
  have d1 : w2.cell? ⟨b, 1, none⟩ = some v := by rw [Lib.cell_of_heap hb2]; rfl
  have f1 : w2.frozen? ⟨b, 1, none⟩ = false := Lib.frozen_of_heap hb2 1
  obtain ⟨ao, n', cap, rfl⟩ : ∃ ao n' cap, v' = .slice ao n' cap := by
    rcases hown'.2 with ⟨hv, _⟩ | ⟨g, cap, cur, hv, _⟩
    · exact ⟨_, _, _, hv⟩
    · exact ⟨_, _, _, hv⟩
  have HO := Lib.hid hown'
  have HG := Lib.hid hgrow
  have HB2 := Lib.hid hb2
  have HLO := Lib.hid (fun k hk => (hown.lt k hk).1 : ∀ k, v.ownBlock = some k → lo ≤ k)
  clear hown' hgrow hb2 hown hbk
  go_wp2
  go_ret2
  have hne' : (Value.slice ao n' cap).ownBlock ≠ some b := fun e => by have := (HO.out.lt b e).1; omega
  have hg3 : w2.grownBy (w2.setCell ⟨b, 1, none⟩ (.slice ao n' cap)) (some b) := ⟨rfl, rfl, rfl, by simp [World.setCell], fun k _ hk => Below.heap_setCell _ _ _ _ (fun e => hk (by simp [e]))⟩
  refine ⟨rfl, .inr ⟨.slice ao n' cap, ?_, ?_, hne', hblo⟩, ?_⟩
  · have := HB2.out
    simp [World.setCell, Array.getElem?_modify, this]
  · have h2 := HO.out.kept hg3 (.inr hne')
    have e1 : Lib.byteCells l ++ Lib.strCells S = Lib.byteCells (l ++ s) := by rw [HS.out, Lib.strCells_eq, ← Lib.byteCells_append]
    rw [e1] at h2
    have e2 : (Lib.byteCells (l ++ s)).length = (Lib.byteCells l).length + S.size := by rw [Lib.byteCells_length, Lib.byteCells_length, hs]; simp
    rw [e2, hbl, hs]
    simpa [Lib.strCells_length, hbl, hs] using h2
  · refine HF1.out.trans ⟨HG.out.os, HG.out.tape, HG.out.output, Nat.le_trans HG.out.size hg3.size, fun k hk hkb => ?_⟩
    rw [Below.heap_setCell _ _ _ _ hkb]
    have := HF1.out.size
    exact HG.out.block k (by omega) (fun e => by have := HLO.out k e.symm; omega)

theorem readS (lo b : Nat) (l : List UInt8) (w : World) (h : Bu lo b l w) (hlo : lo ≤ w.heap.size) :
    Calls Tryd.prog 42 #[.pointer (some ⟨b, 0, none⟩)] w fun e w' => e = .returned (.string ⟨l.toArray⟩) ∧ Below b w w' := by
  have hb : b ≤ w.heap.size := by
    rcases h with ⟨v, h1, h2, h3, h4⟩ | ⟨v, h1, h2, h3, h4⟩ <;> omega
  refine Tryd.Builder_String_any b b l w ?_ hb
  rcases h with ⟨v, h1, h2, h3, h4⟩ | ⟨v, h1, h2, h3, h4⟩
  · exact .inl ⟨Nat.le_refl _, v, h1, Go.Joins.ownsRow_le h2 (by omega), h3⟩
  · exact .inr ⟨Nat.le_refl _, v, h1, Go.Joins.ownsRow_le h2 (by omega), h3⟩

theorem str_app (a b : List UInt8) : (({ data := a.toArray } : ByteArray) ++ ({ data := b.toArray } : ByteArray)) = { data := (a ++ b).toArray } := by
  apply ByteArray.ext
  simp

/-- The table of powers that Itoa reads. -/
abbrev TabP (w : World) : Prop := Lib.TabIs Tryd.prog w "internal/strconv.uint64pow10" .u64 Lib.pow10Tab

theorem TabP.on {w w' : World} (h : TabP w) (hb : Below w.heap.size w w') : TabP w' := (Lib.tabBelow_of_tabIs h) _ hb

theorem implFI' (n : Int) (w : World) (h0 : -9223372036854775808 ≤ n) (h1 : n ≤ 9223372036854775807) (htab : TabP w) :
    Calls Tryd.prog 41 #[.int .i64 n] w fun e w' => e = .returned (.string ⟨(Lib.itoa n).toArray⟩) ∧ Below w.heap.size w w' := by
  have HT := Lib.hid htab
  clear htab
  go_enter Tryd.func41, Tryd.ntmps41
  go_wp2_with fail
  refine (Tryd.strconv_Itoa n h0 h1 _ HT.out).mono ?_
  rintro e w' ⟨rfl, k, os, rfl⟩
  go_wp2
  go_ret
  exact ⟨rfl, Lib.below_grow _ _ (Nat.le_refl _) _ _⟩

end Go.Proofs.YtcpchdnhhjhpaacDoor
