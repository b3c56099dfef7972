/- What a write into a strings.Builder leaves alone: all that is no row of bytes. -/
import Derived.Test.YtcpchdnhhjhpaacDoorFb
import Derived.Test.YtcpchdnhhjhpaacDoorS1
namespace Go.Proofs.YtcpchdnhhjhpaacDoor
set_option linter.unusedVariables false
set_option linter.unusedSimpArgs false
open Go.RowKit

structure FrT (lo b : Nat) (w w' : World) : Prop where
  frame : FrB lo b w w'
  typed : ∀ k, k < w.heap.size → k ≠ b → (∀ cs fr, w.heap[k]? ≠ some (.cells cs 5 fr)) → w'.heap[k]? = w.heap[k]?

theorem own_typed {w : World} {B n : Nat} {v : Value} {vs : List Value} {e : TypeId} (h : w.ownsRow B e 1 v n vs) {k : Nat} (hk : v.ownBlock = some k) : ∃ cs fr, w.heap[k]? = some (.cells cs e fr) := by
  rcases h.2 with ⟨hv, -⟩ | ⟨g, cap, cur, hv, hg, hc, -⟩
  · rw [hv] at hk; simp [Value.ownBlock] at hk
  · rw [hv] at hk
    simp only [Value.ownBlock, Option.some.injEq] at hk
    subst hk
    exact ⟨_, _, hc⟩

theorem FrT.ownsRow {lo b B n : Nat} {w w' : World} {v : Value} {vs : List Value} {e : TypeId} (h : FrT lo b w w') (ho : w.ownsRow B e 1 v n vs) (hB : b < B) (he : e ≠ 5) : w'.ownsRow B e 1 v n vs :=
  ownsRow_block ho fun k hk => by
    obtain ⟨h1, h2⟩ := ho.lt k hk
    obtain ⟨cs, fr, hc⟩ := own_typed ho hk
    refine h.typed k h2 (by omega) fun cs' fr' h5 => ?_
    rw [hc] at h5
    injection h5 with h5
    injection h5 with _ h6 _
    exact he h6

theorem FrT.ownII {lo b B hi : Nat} {w w' : World} {v : Value} {ll : List (List Int)} (h : FrT lo b w w') (ho : OwnII B hi w v ll) (hB : b < B) : OwnII B hi w' v ll := by
  obtain ⟨vs, h1, h2, h3, h4, h5, h6⟩ := ho
  exact ⟨vs, h1, h.ownsRow h2 hB (by decide), fun i hi' => ⟨(h3 i hi').1, h.ownsRow (h3 i hi').2 hB (by decide)⟩, h4, h5, h6⟩

theorem copyCheckT (lo b : Nat) (l : List UInt8) (w : World) (h : Bu lo b l w) :
    Calls Tryd.prog 69 #[.pointer (some ⟨b, 0, none⟩)] w fun e w' => e = .returned (.tuple #[]) ∧ (BuP (.pointer (some ⟨b, 0, none⟩)) lo b l w' ∧ FrB lo b w w' ∧ ∀ k, k < w.heap.size → k ≠ b → w'.heap[k]? = w.heap[k]?) := by
  rcases h with ⟨v, h1, h2, h3, h4⟩ | ⟨v, h1, h2, h3, h4⟩
  · refine (copyCheckFresh b w (by rw [Lib.cell_of_heap h1]; rfl) (by simp [World.shape?, h1]) (Lib.frozen_of_heap h1 0)).mono ?_
    rintro e w' ⟨rfl, rfl⟩
    have hg : w.grownBy (w.setCell ⟨b, 0, none⟩ (.pointer (some ⟨b, 0, none⟩))) (some b) := ⟨rfl, rfl, rfl, by simp [World.setCell], fun k _ hk => Below.heap_setCell _ _ _ _ (fun e => hk (by simp [e]))⟩
    refine ⟨rfl, ⟨v, ?_, h2.kept hg (.inr h3), h3, h4⟩, ⟨hg.os, hg.tape, hg.output, hg.size, fun k hk hkb => Below.heap_setCell _ _ _ _ hkb⟩, fun k hk hkb => Below.heap_setCell _ _ _ _ hkb⟩
    simp [World.setCell, Array.getElem?_modify, h1]
  · refine (copyCheckUsed b w (by rw [Lib.cell_of_heap h1]; rfl)).mono ?_
    rintro e w' ⟨rfl, rfl⟩
    exact ⟨rfl, ⟨v, h1, h2, h3, h4⟩, ⟨rfl, rfl, rfl, Nat.le_refl _, fun _ _ _ => rfl⟩, fun _ _ _ => rfl⟩

set_option maxHeartbeats 2000000 in
set_option maxRecDepth 100000 in
theorem writeT (lo b : Nat) (l s : List UInt8) (w : World) (h : Bu lo b l w) (hl : l.length + s.length ≤ 1000000) (hlo : lo ≤ w.heap.size) :
    Calls Tryd.prog 40 #[.pointer (some ⟨b, 0, none⟩), .string ⟨s.toArray⟩] w fun e w' => e = .returned (.tuple #[.int .i64 (s.length : Int), .nilIface]) ∧ Bu lo b (l ++ s) w' ∧ FrT lo b w w' := by
  obtain ⟨i0, hi, hz0, hz1, hz2⟩ := info_parts infoByte'
  have hs : (⟨s.toArray⟩ : ByteArray).size = s.length := by show s.toArray.size = _; simp
  have hbl : (Lib.byteCells l).length = l.length := Lib.byteCells_length l
  have HH := Lib.hid h
  obtain ⟨S, hS⟩ : ∃ S : ByteArray, S = ⟨s.toArray⟩ := ⟨_, rfl⟩
  rw [← hS] at hs ⊢
  have HS := Lib.hid hS
  clear hS h
  go_enter Tryd.func40, Tryd.ntmps40
  go_wp2_with fail
  refine (copyCheckT lo b l _ HH.out).mono ?_
  rintro e w1 ⟨rfl, ⟨v, hbk, hown, hne, hblo⟩, hf1, hck⟩
  have HCK := Lib.hid hck
  have c0 : w1.cell? ⟨b, 0, none⟩ = some (.pointer (some ⟨b, 0, none⟩)) := by rw [Lib.cell_of_heap hbk]; rfl
  have c1 : w1.cell? ⟨b, 1, none⟩ = some v := by rw [Lib.cell_of_heap hbk]; rfl
  have HF1 := Lib.hid hf1
  clear hf1
  go_wp2_with (at_builtin; refine Lib.wpList_append_own_string _ rfl _ _ 59 9 rfl lo 5 i0 Tryd.underlying59 Tryd.underlying9 hi hz0 hz1 hz2 _ _ _ rfl hown S rfl ?c3 ?c4 ?c5 ?_)
  case c3 => unfold maxLen; omega
  case c4 => omega
  case c5 => have := HF1.out.size; omega
  intro v' w2 hown' hgrow _
  have hlt : b < w1.heap.size := (Array.getElem?_eq_some_iff.1 hbk).1
  have hb2 : w2.heap[b]? = some (.cells #[.pointer (some ⟨b, 0, none⟩), v] 61 (0, 0)) := by
    rw [hgrow.block b hlt (fun e => hne e.symm)]
    exact hbk
  have d0 : w2.cell? ⟨b, 0, none⟩ = some (.pointer (some ⟨b, 0, none⟩)) := by rw [Lib.cell_of_heap hb2]; rfl
  have d1 : w2.cell? ⟨b, 1, none⟩ = some v := by rw [Lib.cell_of_heap hb2]; rfl
  have f1 : w2.frozen? ⟨b, 1, none⟩ = false := Lib.frozen_of_heap hb2 1
  obtain ⟨ao, n', cap, rfl⟩ : ∃ ao n' cap, v' = .slice ao n' cap := by
    rcases hown'.2 with ⟨hv, _⟩ | ⟨g, cap, cur, hv, _⟩
    · exact ⟨_, _, _, hv⟩
    · exact ⟨_, _, _, hv⟩
  have HO := Lib.hid hown'
  have HG := Lib.hid hgrow
  have HB2 := Lib.hid hb2
  have HTY := Lib.hid (fun k hk => own_typed hown hk : ∀ k, v.ownBlock = some k → ∃ cs fr, w1.heap[k]? = some (.cells cs 5 fr))
  have HLO := Lib.hid (fun k hk => (hown.lt k hk).1 : ∀ k, v.ownBlock = some k → lo ≤ k)
  clear hown' hgrow hb2 hown hbk
  go_wp2
  go_ret2
  have hne' : (Value.slice ao n' cap).ownBlock ≠ some b := fun e => by have := (HO.out.lt b e).1; omega
  have hg3 : w2.grownBy (w2.setCell ⟨b, 1, none⟩ (.slice ao n' cap)) (some b) := ⟨rfl, rfl, rfl, by simp [World.setCell], fun k _ hk => Below.heap_setCell _ _ _ _ (fun e => hk (by simp [e]))⟩
  refine ⟨rfl, .inr ⟨.slice ao n' cap, ?_, ?_, hne', hblo⟩, ?_⟩
  · have := HB2.out
    simp [World.setCell, Array.getElem?_modify, this]
  · have h2 := HO.out.kept hg3 (.inr hne')
    have e1 : Lib.byteCells l ++ Lib.strCells S = Lib.byteCells (l ++ s) := by rw [HS.out, Lib.strCells_eq, ← Lib.byteCells_append]
    rw [e1] at h2
    have e2 : (Lib.byteCells (l ++ s)).length = (Lib.byteCells l).length + S.size := by rw [Lib.byteCells_length, Lib.byteCells_length, hs]; simp
    rw [e2, hbl, hs]
    simpa [Lib.strCells_length, hbl, hs] using h2
  · refine ⟨HF1.out.trans ⟨HG.out.os, HG.out.tape, HG.out.output, Nat.le_trans HG.out.size hg3.size, fun k hk hkb => by
    rw [Below.heap_setCell _ _ _ _ hkb]
    have := HF1.out.size
    exact HG.out.block k (by omega) (fun e => by have := HLO.out k e.symm; omega)⟩, fun k hk hkb hnt => ?_⟩
    have h1 := HCK.out k hk hkb
    rw [Below.heap_setCell _ _ _ _ hkb, ← h1]
    refine HG.out.block k (by have := HF1.out.size; omega) fun e => ?_
    obtain ⟨cs, fr, hc⟩ := HTY.out k e.symm
    rw [h1] at hc
    exact hnt cs fr hc

end Go.Proofs.YtcpchdnhhjhpaacDoor
