/- impl.MaximalCliques. -/
import Derived.Test.YtpifgmmmmhenmabMu
import Derived.Test.YtpifgmmmmhenmabMr
import Derived.Test.YtpifgmmmmhenmabMs
import Derived.Test.YtpifgmmmmhenmabRv
import Derived.Shelf.Slices.In.SortNone
import Derived.Test.YtpifgmmmmhenmabT3
import Derived.Test.YtpifgmmmmhenmabS1
import Derived.Sort.LoopGhostIn
import Derived.Sort.CutIn
import Derived.Sort.BigQuietIn
namespace Go.Proofs.Ytpifgmmmmhenmab
set_option linter.unusedVariables false
set_option linter.unusedSimpArgs false
open Go.RowKit Go.Shelf
attribute [local go_sem] Oper.semAt_some

theorem OwnI.notBlock {B r : Nat} {W : World} {v : Value} {l : List Int} {o : Obj} (h : OwnI B W v l) (hr : W.heap[r]? = some o) (ho : o.isCells = false) : v.ownBlock ≠ some r := fun hk => by
  rcases h.2.2 with ⟨rfl, _⟩ | ⟨g, cap, cur, rfl, _, h11, _⟩
  · simp [Value.ownBlock] at hk
  · obtain rfl : g = r := by simpa [Value.ownBlock] using hk
    rw [h11] at hr
    cases hr; cases ho

theorem turned_size {w w' : World} {b : Nat} (h : w.mapTurned w' b) : w'.heap.size = w.heap.size := by
  obtain ⟨es, clock, es', clock', h1, rfl⟩ := h
  simp [Go.ChangeMaps.setBlock]

theorem shut_ownM {B : Nat} : ∀ (Ds : List Nat) (W : World) {C : Nat} {v : Value} {l : List Int}, MarksOk B Ds W → OwnI C W v l → OwnI C (shut W Ds) v l := by
  intro Ds
  induction Ds with
  | nil => exact fun W _ _ _ _ h => h
  | cons D Ds ih =>
    intro W C v l hm h
    have hD := hm.2 D (by simp)
    refine ih _ ⟨(List.nodup_cons.1 hm.1).2, fun E hE => ⟨(hm.2 E (by simp [hE])).1, ?_⟩⟩ ⟨h.1, ownsRow_putObj h.2 (.deferred none) hD.2 rfl⟩
    have hne : E ≠ D := fun e => (List.nodup_cons.1 hm.1).1 (e ▸ hE)
    exact (World.putObj_heap_other hne).trans (hm.2 E (by simp [hE])).2

theorem sortNoneM (p : Option Addr) (cap : Nat) (w : World) : Calls Try.prog 50 #[.slice p 0 cap] w fun e w' => e = .returned (.tuple #[]) ∧ w' = w := Any.slices_Sort_int_none Try.lays189 p cap w

/-- What holds between two steps of the search, the two maps aside. -/
def MxK (w : World) (n : Int) (gv : Value) (bq bG : Nat) (u : Value) (L : List Int) (W : World) : Prop :=
  BoxG w.heap.size n gv W ∧ Boxed W bq 76 (.map (some bG)) ∧ OwnI (bq + 1) W u L ∧ Below w.heap.size w W ∧ bq + 1 ≤ W.heap.size

theorem MxK.keep {w : World} {n : Int} {gv : Value} {bq bG : Nat} {u : Value} {L : List Int} {W W' : World} {row : Option Nat} (h : MxK w n gv bq bG u L W) (hg : W.grownBy W' row) (hr : ∀ r, row = some r → w.heap.size < r ∧ r ≠ bq ∧ u.ownBlock ≠ some r) : MxK w n gv bq bG u L W' := by
  obtain ⟨h1, h2, h3, h4, h5⟩ := h
  exact ⟨h1.keep hg (fun e => by have := (hr _ e).1; omega), h2.kept hg (fun e => (hr _ e.symm).2.1 rfl), h3.block fun k hk => hg.block k (h3.lt k hk).2 fun e => (hr k e.symm).2.2 hk, h4.grown hg h4.size (fun r e => by have := (hr r e).1; omega), Nat.le_trans h5 hg.size⟩

theorem MxK.on {w : World} {n : Int} {gv : Value} {bq bG : Nat} {u : Value} {L : List Int} {W W' : World} (h : MxK w n gv bq bG u L W) (hb : Below W.heap.size W W') : MxK w n gv bq bG u L W' := h.keep (below_grown hb) (fun r e => by cases e)

theorem ranges_obj {P : Program} {k : TypeId} {R : Value → Option (DataW Unit × List MemPlace)} {w : World} {b r n : Nat} {D : DataW Unit} {left : Lit → Bool} {cnt : Nat} (h : w.ranges P k R b r n D left cnt) : ∃ o, w.heap[r]? = some o ∧ o.isCells = false ∧ o ≠ .deferred (some []) := by
  obtain ⟨es, clock, since, seen, c0, _, _, _, _, hr, _⟩ := h
  exact ⟨_, hr, rfl, by simp⟩

theorem ownsMap_obj {P : Program} {k : TypeId} {R : Value → Option (DataW Unit × List MemPlace)} {w : World} {b n : Nat} {D : DataW Unit} (h : w.ownsMap P k R b n D) : ∃ o, w.heap[b]? = some o ∧ o.isCells = false ∧ o ≠ .deferred (some []) := by
  obtain ⟨es, clock, hb, _⟩ := h
  exact ⟨_, hb, rfl, by simp⟩

/-- What holds between two rounds over the level's map. -/
def MxR (w : World) (n : Int) (gv : Value) (bq bL bG it P : Nat) (DL : DataW Unit) (left : Lit → Bool) (cnt nn : Nat) (DG : DataW Unit) (u : Value) (L : List Int) (Ds : List Nat) (W : World) : Prop :=
  MarksOk (bq + 1) Ds W ∧ MxK w n gv bq bG u L W ∧ W.ranges Try.prog 3 (plainElem (H := Unit) Try.prog 4) bL it P DL left cnt ∧ W.ownsMap Try.prog 3 (plainElem (H := Unit) Try.prog 4) bG nn DG

theorem MxR.keep {w : World} {n : Int} {gv : Value} {bq bL bG it P : Nat} {DL : DataW Unit} {left : Lit → Bool} {cnt nn : Nat} {DG : DataW Unit} {u : Value} {L : List Int} {Ds : List Nat} {W W' : World} {row : Option Nat} (h : MxR w n gv bq bL bG it P DL left cnt nn DG u L Ds W) (hg : W.grownBy W' row)
    (hr : ∀ r, row = some r → w.heap.size < r ∧ r ≠ bq ∧ r ≠ bL ∧ r ≠ bG ∧ r ≠ it ∧ u.ownBlock ≠ some r ∧ r ∉ Ds) : MxR w n gv bq bL bG it P DL left cnt nn DG u L Ds W' := by
  obtain ⟨h1, h2, h3, h4⟩ := h
  exact ⟨h1.keep fun D hD => hg.block D (h1.lt hD) fun e => (hr D e.symm).2.2.2.2.2.2 hD, h2.keep hg (fun r e => ⟨(hr r e).1, (hr r e).2.1, (hr r e).2.2.2.2.2.1⟩), h3.kept hg (fun e => (hr _ e.symm).2.2.1 rfl) (fun e => (hr _ e.symm).2.2.2.2.1 rfl), h4.kept hg (fun e => (hr _ e.symm).2.2.2.1 rfl)⟩

theorem MxR.on {w : World} {n : Int} {gv : Value} {bq bL bG it P : Nat} {DL : DataW Unit} {left : Lit → Bool} {cnt nn : Nat} {DG : DataW Unit} {u : Value} {L : List Int} {Ds : List Nat} {W W' : World} (h : MxR w n gv bq bL bG it P DL left cnt nn DG u L Ds W) (hg : W.grownBy W' none) : MxR w n gv bq bL bG it P DL left cnt nn DG u L Ds W' := h.keep hg (fun r e => by cases e)

/-- Another entry of the level's map has come. -/
theorem MxR.next {w : World} {n : Int} {gv : Value} {bq bL bG it P : Nat} {DL : DataW Unit} {left left' : Lit → Bool} {cnt cnt' nn : Nat} {DG : DataW Unit} {u : Value} {L : List Int} {Ds : List Nat} {W W' : World} (h : MxR w n gv bq bL bG it P DL left cnt nn DG u L Ds W)
    (hit : w.heap.size < it ∧ it ≠ bq ∧ it ≠ bG) (hg : W.grownBy W' (some it)) (h3' : W'.ranges Try.prog 3 (plainElem (H := Unit) Try.prog 4) bL it P DL left' cnt') : MxR w n gv bq bL bG it P DL left' cnt' nn DG u L Ds W' := by
  obtain ⟨h1, h2, h3, h4⟩ := h
  obtain ⟨o, ho, hc, hd⟩ := ranges_obj h3
  refine ⟨h1.keep fun D hD => hg.block D (h1.lt hD) fun e => ?_, h2.keep hg (fun r e => ?_), h3', h4.kept hg (fun e => hit.2.2 (Option.some.inj e).symm)⟩
  · obtain rfl : D = it := Option.some.inj e
    have := (h1.2 D hD).2
    rw [ho] at this
    exact hd (Option.some.inj this)
  · cases e
    exact ⟨hit.1, hit.2.1, h2.2.2.1.notBlock ho hc⟩

/-- The other map has been written. -/
theorem MxR.turn {w : World} {n : Int} {gv : Value} {bq bL bG it P : Nat} {DL : DataW Unit} {left : Lit → Bool} {cnt nn nn' : Nat} {DG DG' : DataW Unit} {u : Value} {L : List Int} {Ds : List Nat} {W W' : World} (h : MxR w n gv bq bL bG it P DL left cnt nn DG u L Ds W)
    (hb : w.heap.size < bG ∧ bG < bq ∧ bG ≠ bL) (hg : W.grownBy W' (some bG)) (h4' : W'.ownsMap Try.prog 3 (plainElem (H := Unit) Try.prog 4) bG nn' DG') : MxR w n gv bq bL bG it P DL left cnt nn' DG' u L Ds W' := by
  obtain ⟨h1, h2, h3, h4⟩ := h
  obtain ⟨o, ho, hc, hd⟩ := ownsMap_obj h4
  refine ⟨h1.keep fun D hD => hg.block D (h1.lt hD) fun e => ?_, h2.keep hg (fun r e => ?_), h3.kept hg (fun e => hb.2.2 (Option.some.inj e).symm) (fun e => ?_), h4'⟩
  · obtain rfl : D = bG := Option.some.inj e
    have := (h1.2 D hD).1
    omega
  · cases e
    exact ⟨hb.1, by omega, h2.2.2.1.notBlock ho hc⟩
  · obtain rfl : it = bG := Option.some.inj e
    obtain ⟨es, clock, since, seen, c0, _, _, _, _, hr, _⟩ := h3
    obtain ⟨es', clock', hb', _⟩ := h4
    rw [hr] at hb'
    cases hb'

/-- A clique has been appended. -/
theorem MxR.took {w : World} {n : Int} {gv : Value} {bq bL bG it P : Nat} {DL : DataW Unit} {left : Lit → Bool} {cnt nn : Nat} {DG : DataW Unit} {u v' : Value} {L : List Int} {Ds : List Nat} {W W' : World} {X : Nat} (h : MxR w n gv bq bL bG it P DL left cnt nn DG u L Ds W)
    (hX : X < 128) (hb : w.heap.size < bq ∧ bL < bq ∧ bG < bq) (hown' : W'.ownsRow (bq + 1) 3 1 v' (L.length + 1) (iv L ++ [.int .i64 (X : Int)])) (hg : W.grownBy W' u.ownBlock) : MxR w n gv bq bL bG it P DL left cnt nn DG v' (L ++ [(X : Int)]) Ds W' := by
  obtain ⟨h1, h2, h3, h4⟩ := h
  obtain ⟨g1, g2, g3, g4, g5⟩ := h2
  have hlt := g3.lt
  obtain ⟨o, ho, hc, hd⟩ := ranges_obj h3
  refine ⟨h1.keep fun D hD => hg.block D (h1.lt hD) fun e => g3.notBlock (h1.2 D hD).2 rfl e.symm, ⟨g1.keep hg (fun e => ?_), g2.kept hg (fun e => ?_), ⟨inI64_append g3.1 (inI64_one (by omega) (by omega)), ?_⟩, g4.grown hg g4.size (fun r e => ?_), Nat.le_trans g5 hg.size⟩, h3.kept hg (fun e => ?_) (fun e => ?_), h4.kept hg (fun e => ?_)⟩
  · have := (hlt _ e).1; omega
  · have := (hlt _ e.symm).1; omega
  · rw [iv_snoc] at hown'; simpa using hown'
  · have := (hlt _ e).1; omega
  · have := (hlt _ e.symm).1; omega
  · exact g3.notBlock ho hc e.symm
  · have := (hlt _ e.symm).1; omega

/-- The two maps change their places. -/
theorem MxR.swap {w : World} {n : Int} {gv : Value} {bq bL bG it P : Nat} {DL : DataW Unit} {left : Lit → Bool} {cnt nn : Nat} {DG : DataW Unit} {u : Value} {L : List Int} {Ds : List Nat} {W : World} (h : MxR w n gv bq bL bG it P DL left cnt nn DG u L Ds W)
    (hb : w.heap.size < bq ∧ bL < bq ∧ bG < bq) (hnn : nn ≤ 7 * P) : MarksOk (bq + 1) Ds (W.setCell ⟨bq, 0, none⟩ (.map (some bL))) ∧ MxK w n gv bq bL u L (W.setCell ⟨bq, 0, none⟩ (.map (some bL))) ∧
      (W.setCell ⟨bq, 0, none⟩ (.map (some bL))).ownsMap Try.prog 3 (plainElem (H := Unit) Try.prog 4) bG (7 * P) DG ∧ (W.setCell ⟨bq, 0, none⟩ (.map (some bL))).ownsMap Try.prog 3 (plainElem (H := Unit) Try.prog 4) bL P DL := by
  obtain ⟨h1, ⟨g1, g2, g3, g4, g5⟩, h3, h4⟩ := h
  have hg := grownBy_setCell' W bq (.map (some bL))
  refine ⟨h1.setCell (by omega) _, ⟨g1.keep hg (fun e => by have := Option.some.inj e; omega), g2.set _, g3.setBelow (by show bq < bq + 1; omega) _, g4.grown hg g4.size (fun r e => by cases e; omega), Nat.le_trans g5 hg.size⟩, (h4.kept hg (fun e => by have := Option.some.inj e; omega)).mono hnn, h3.owns.kept hg (fun e => by have := Option.some.inj e; omega)⟩

/-- Between two rounds of the walk over what may be put to a clique. -/
def MxI (w : World) (n : Int) (gv : Value) (bq bL bG it P : Nat) (DL : DataW Unit) (left : Lit → Bool) (cnt nn : Nat) (S : Nat → Prop) (X C z : Nat) (u : Value) (L : List Int) (Ds : List Nat) (N : Nat) (pre : List (Mem (C : Int))) (W : World) : Prop :=
  ∃ DG, MxR w n gv bq bL bG it P DL left cnt (nn + pre.length) DG u L Ds W ∧ KeysAre DG (fun Y => S Y ∨ ∃ v ∈ pre.map (·.1), Y = X ||| 2 ^ v) ∧ Boxed W z 3 (.int .i64 (X : Int)) ∧ N ≤ W.heap.size

theorem mxI_own {w : World} {n : Int} {gv : Value} {bq bL bG it P : Nat} {DL : DataW Unit} {left : Lit → Bool} {cnt nn : Nat} {S : Nat → Prop} {X C z : Nat} {u : Value} {L : List Int} {Ds : List Nat} {N : Nat} (h : w.heap.size < N ∧ bq < N ∧ bL < N ∧ bG < N ∧ it < N ∧ z < N) (hD : ∀ D, D ∈ Ds → D < N) : OwnFrom N (MxI w n gv bq bL bG it P DL left cnt nn S X C z u L Ds N) := fun s A B row hs hg hr => by
  obtain ⟨DG, h1, h2, h3, h4⟩ := hs
  refine ⟨DG, h1.keep hg (fun r e => ?_), h2, h3.kept hg (fun e => by have := (hr z e.symm).1; omega), Nat.le_trans h4 hg.size⟩
  obtain ⟨hN, o, ho, hc⟩ := hr r e
  exact ⟨by omega, by omega, by omega, by omega, by omega, h1.2.1.2.2.1.notBlock ho hc, fun hm => by have := hD r hm; omega⟩

set_option maxHeartbeats 8000000 in
set_option maxRecDepth 100000 in
theorem implMax (n : Int) (v : Value) (l : List Int) (w : World) (h : Ints w v l) :
    Calls Try.prog 52 #[.agg #[.int .i64 n, v]] w (GetsI w.heap.size w (maxR n l)) := by
  obtain ⟨i0, hi, hi0, hi1, hi2⟩ := info_parts infoInt
  obtain ⟨a, cap, rfl, -, -⟩ := h.form
  have HI := Lib.hid h
  clear h
  obtain ⟨R, hR⟩ : ∃ R, R = maxR n l := ⟨_, rfl⟩
  have HR := Lib.hid hR
  rw [← hR]
  clear hR
  refine (callsIn_wide (n := 6)).1 ?_
  refine callsIn_of_wp_marks Try.func52 rfl trivial ?_ rfl
  simp only [Try.ntmps52, List.size_toArray, List.length_cons, List.length_nil, Nat.reduceAdd, Nat.reduceSub, Array.replicate_succ, Array.replicate_zero, List.push_toArray, List.append_toArray, List.nil_append, List.cons_append]
  obtain ⟨W0, hW0⟩ : ∃ W0, W0 = w.alloc (.cells #[.int .i64 n, .slice a l.length cap] 27) := ⟨_, rfl⟩
  have BX := Lib.hid (show BoxG w.heap.size n (.slice a l.length cap) W0 by rw [hW0]; exact BoxG.new w 27 n (.slice a l.length cap) ⟨_, _, _, rfl⟩)
  have BB := Lib.hid (show Below w.heap.size w W0 by rw [hW0]; exact (Below.refl _ w).alloc (Nat.le_refl _) _)
  have hz0 : w.heap.size < W0.heap.size := by rw [hW0]; simp
  gi_wp2_with fail
  rw [← hW0]
  refine ⟨trivial, (callsIn_wide.2 (implIsG_any n _ l _ (HI.out.on BB.out))).mono ?_⟩
  rintro e w1 ⟨r, rfl, hr, hb⟩
  have HRR := Lib.hid hr
  clear hW0
  have BX1 := Lib.hid (BX.out.keep (below_grown hb) (by simp))
  have BB1 := Lib.hid (BB.out.trans (hb.mono BB.out.size))
  have hz1 : w.heap.size < w1.heap.size := Nat.lt_of_lt_of_le hz0 hb.size
  clear hb hr BX BB hz0
  obtain ⟨c0, c1, cz⟩ := BX1.out
  cases r with
  | false =>
    have HN := Lib.hid (show R = [] by rw [HR.out]; unfold maxR; rw [if_neg (fun h => absurd (HRR.out.2 h) (by decide))])
    gi_wp2
    refine ⟨_, by simp [results, Try.f52, go_sem]; rfl, ?_⟩
    rw [HN.out]
    exact ⟨_, rfl, ⟨inI64_nil, World.ownsRow_nil _ _ _ _⟩, BB1.out⟩
  | true =>
    have HG := Lib.hid (HRR.out.1 (by first | rfl | trivial))
    have hl7 : l.length ≤ 7 := by have := HG.out.2.1; have := HG.out.2.2.1; omega
    have HRE := Lib.hid (show R = maxK n l (2 ^ l.length) by rw [HR.out]; unfold maxR; rw [if_pos HG.out])
    obtain ⟨b1, hb1⟩ : ∃ b1, b1 = w1.heap.size := ⟨_, rfl⟩
    have hmm := @run_makeMap Try.prog
    have HMADE := Lib.hid (show (w1.alloc (.map #[] 0)).ownsMap Try.prog 3 (plainElem (H := Unit) Try.prog 4) b1 0 (.map []) by rw [hb1]; exact World.ownsMap_made _ _ _ _)
    gi_wp2_with (refine wpListIn_insert_own (H := Unit) _ rfl _ _ _ 76 rfl 3 4 (Maps.int_keyed Try.underlying3) Try.underlying76 (plainElem Try.prog 4) b1 0 (.map []) (by rw [hb1]; rfl) HMADE.out (by unfold maxLen; omega) _ _ (.int .i64 0) rfl rfl (Maps.keyOf_int_mk Try.underlying3 (by decide)) (.lit (.bool true)) [] (plainElem_bool Try.underlying4 true) ?_)
    intro wA hownA hturnA
    rw [← hb1] at hownA hturnA ⊢
    have hsA : wA.heap.size = b1 + 1 := by rw [turned_size hturnA, hb1]; simp
    obtain ⟨bq, hbq⟩ : ∃ bq, bq = b1 + 1 + 1 := ⟨_, rfl⟩
    obtain ⟨w3, hw3⟩ : ∃ w3, w3 = (wA.alloc (.map #[] 0)).alloc (.cells #[.map (some (b1 + 1))] 76) := ⟨_, rfl⟩
    have hgA : wA.grownBy w3 none := by rw [hw3]; exact grown_trans (World.grownBy_alloc _ _ _) (World.grownBy_alloc _ _ _)
    have HDL := Lib.hid (show w3.ownsMap Try.prog 3 (plainElem (H := Unit) Try.prog 4) b1 1 ((.map [] : DataW Unit).put (.int .i64 0) (.lit (.bool true))) from hownA.kept hgA (by simp))
    have HDG := Lib.hid (show w3.ownsMap Try.prog 3 (plainElem (H := Unit) Try.prog 4) (b1 + 1) 0 (.map []) by
      rw [hw3, ← hsA]
      exact (World.ownsMap_made wA _ _ _).alloc _)
    have HKL := Lib.hid (show KeysAre ((.map [] : DataW Unit).put (.int .i64 0) (.lit (.bool true))) (LvK l 0) from (keys_put keys_empty ⟨[], rfl⟩ 0 (.lit (.bool true))).same (fun X => lv_start hl7 X))
    have hg1A : (w1.alloc (.map #[] 0)).grownBy wA (some b1) := hturnA.grown
    have HMK := Lib.hid (show MxK w n (.slice a l.length cap) bq (b1 + 1) (.slice none 0 0) [] w3 by
      have hz3 : w3.heap.size = b1 + 3 := by rw [hw3]; simp [hsA]
      have g1 : w1.grownBy wA (some b1) := ((World.grownBy_alloc w1 (.map #[] 0) none).but (some b1)).trans hg1A
      refine ⟨(BX1.out.keep g1 (by simp; omega)).keep hgA (by simp), ?_, ⟨inI64_nil, World.ownsRow_nil _ _ _ _⟩, ?_, by omega⟩
      · rw [hw3, hbq]
        have h9 := Boxed.new (wA.alloc (.map #[] 0)) 76 (.map (some (b1 + 1)))
        rw [World.size_alloc, hsA] at h9
        exact h9
      · exact (BB1.out.grown g1 BB1.out.size (fun r e => by cases e; omega)).grown hgA (by have := BB1.out.size; have := g1.size; omega) (fun r e => by cases e))
    have HPW := Lib.hid (show w.heap.size < b1 by omega)
    clear hownA hturnA hg1A hgA HMADE c0 c1 cz BX1 BB1
    have HB1 := Lib.hid hb1
    clear hb1
    gi_upto_region 5 with fail
    rw [← hw3, ← hbq]
    have HBQ := Lib.hid hbq
    clear hw3 hsA hmm hbq
    gi_wp2
    refine wpIn_loop_ghost (fun m a' w' => ∃ (u3 u6 u7 u8 u15 u16 u17 u18 u19 u20 u21 u22 u23 u24 u25 u26 u27 u28 u29 u30 u31 u32 u33 u34 u35 u36 u37 u38 u39 u40 u41 u42 u43 u44 u45 u46 : Value) (bL : Nat) (ds : List Deferred), (∃ (k bG nG : Nat) (L : List Int) (DL DG : DataW Unit) (Ds : List Nat), k + m = 9 ∧ k ≤ 8 ∧ L.length ≤ 7 ^ k ∧ ((bL = b1 ∧ bG = b1 + 1) ∨ (bL = b1 + 1 ∧ bG = b1)) ∧ ds = markL Ds ∧ MarksOk (bq + 1) Ds w' ∧ Hid (MxK w n (.slice a l.length cap) bq bG u3 L w') ∧ Hid (w'.ownsMap Try.prog 3 (plainElem (H := Unit) Try.prog 4) bL (7 ^ k) DL) ∧ Hid (KeysAre DL (LvK l k)) ∧ Hid (w'.ownsMap Try.prog 3 (plainElem (H := Unit) Try.prog 4) bG nG DG) ∧ Hid (InK l k L)) ∧ a' = { tmps := #[.agg #[.int .i64 n, .slice a l.length cap], .pointer (some ⟨w.heap.size, 0, none⟩), .slice none 0 0, u3, .map (some bL), .pointer (some ⟨bq, 0, none⟩), u6, u7, u8, .agg #[.int .i64 n, .slice a l.length cap], .bool true, .bool false, .map (some b1), .map (some b1), .map (some (b1 + 1)), u15, u16, u17, u18, u19, u20, u21, u22, u23, u24, u25, u26, u27, u28, u29, u30, u31, u32, u33, u34, u35, u36, u37, u38, u39, u40, u41, u42, u43, u44, u45, u46], defers := ds }) 9 ?atStart ?round
    case atStart =>
      (repeat apply Exists.intro)
      refine ⟨⟨0, b1 + 1, 0, [], _, _, [], by omega, by omega, by simp, .inl ⟨rfl, rfl⟩, rfl, MarksOk.nil _ _, HMK.out, ?_, HKL.out, HDG.out, inK_zero l⟩, rfl⟩
      have h9 := HDL.out
      exact Lib.hid (by simpa using h9)
    case round =>
      clear HMK HKL HDG HDL
      rintro m a' wr ⟨u3, u6, u7, u8, u15, u16, u17, u18, u19, u20, u21, u22, u23, u24, u25, u26, u27, u28, u29, u30, u31, u32, u33, u34, u35, u36, u37, u38, u39, u40, u41, u42, u43, u44, u45, u46, bL, ds, ⟨k, bG, nG, L, DL, DG, Ds, hkm, hk8, hLk, hbb, rfl, hmk, HK, HDL, HKL, HDG, HIK⟩, rfl⟩
      have HMK := Lib.hid hmk
      have hk7 : 7 ^ k ≤ 5764801 := by
        have := Nat.pow_le_pow_right (show 0 < 7 by omega) hk8
        simpa using this
      obtain ⟨P, hP⟩ : ∃ P, P = 7 ^ k := ⟨_, rfl⟩
      rw [← hP] at hk7 hLk HDL
      have HP := Lib.hid hP
      clear hmk hP
      obtain ⟨sz, hsz⟩ : ∃ sz, sz = Maps.size DL := ⟨_, rfl⟩
      have HSZ := Lib.hid hsz
      have hszP : sz ≤ P := by rw [hsz]; exact HDL.out.size_le
      obtain ⟨⟨c0, c1, cz⟩, cq, -, -, -⟩ := HK.out
      have cq' := cq.cell
      by_cases hs0 : sz = 0
      · have q0 : decide (0 < (sz : Int)) = false := decide_eq_false (by omega)
        have q0' : decide (0 < sz) = false := decide_eq_false (by omega)
        have HNO := Lib.hid (show ∀ X, ¬ LvK l k X from fun X hX => by
          have h1 := (HKL.out (.int .i64 (X : Int))).2 ⟨X, hX, rfl⟩
          rw [none_of_size (by obtain ⟨_, _, _, _, _, hD9⟩ := HDL.out; exact ⟨_, hD9⟩) (by rw [← HSZ.out]; exact hs0)] at h1
          cases h1)
        have hall := inK_all HG.out hl7 HIK.out HNO.out
        have hsm : sortL L = maxK n l (2 ^ l.length) := sort_max HG.out hall.1 hall.2
        have hL128 : L.length ≤ 128 := by
          have h1 : (sortL L).length = L.length := by unfold sortL; exact List.length_mergeSort _
          rw [← h1, hsm]
          exact Nat.le_trans (maxK_length n l _) (by have := two_le _ hl7; omega)
        have HSM := Lib.hid (show sortL L = R by rw [HRE.out]; exact hsm)
        have hlen := HDL.out.len Try.underlying76 3
        rw [← hsz] at hlen
        have HPQ := Lib.hid (show w.heap.size ≤ bq + 1 by have := HPW.out; have := HBQ.out; omega)
        rcases HK.out.2.2.1.form with ⟨rfl, rfl⟩ | ⟨g9, cp9, rfl, -⟩
        · clear hall hsm hsz c0 c1 cz cq cq' hL128
          gi_wp2_with fail
          refine ⟨trivial, (callsIn_wide.2 (sortNoneM none 0 _)).mono ?_⟩
          rintro e w9 ⟨rfl, rfl⟩
          gi_wp2
          refine leave_with (Ds := Ds) HMK.out ?_
          refine ⟨_, by simp [results, Try.f52, go_sem]; rfl, ?_⟩
          rw [← HSM.out, show sortL ([] : List Int) = [] by simp [sortL]]
          exact ⟨_, rfl, ⟨inI64_nil, World.ownsRow_nil _ _ _ _⟩, shut_below (by have := HPQ.out; omega) Ds _ HK.out.2.2.2.1 HMK.out⟩
        · have HSO := Lib.hid (ownSort HK.out.2.2.1 (by omega) ⟨g9, cp9, rfl⟩)
          clear hall hsm hsz c0 c1 cz cq cq'
          gi_wp2_with fail
          refine ⟨trivial, (callsIn_wide.2 HSO.out).mono ?_⟩
          rintro e w9 ⟨rfl, ho9, hg9⟩
          have HO9 := Lib.hid ho9
          have HM9 := Lib.hid (show MarksOk (bq + 1) Ds w9 from HMK.out.keep fun D hD => hg9.block D (HMK.out.lt hD) fun e => HK.out.2.2.1.notBlock (HMK.out.2 D hD).2 rfl e.symm)
          have HB9 := Lib.hid (show Below w.heap.size w w9 from HK.out.2.2.2.1.grown hg9 HK.out.2.2.2.1.size (fun r e => by have := (HK.out.2.2.1.lt r e).1; have := HPQ.out; omega))
          clear ho9 hg9
          gi_wp2
          refine leave_with (Ds := Ds) HM9.out ?_
          refine ⟨_, by simp [results, Try.f52, go_sem]; rfl, ?_⟩
          rw [← HSM.out]
          have h9 := (shut_ownM Ds _ HM9.out HO9.out).mono HPQ.out
          exact ⟨_, rfl, h9, shut_below (by have := HPQ.out; omega) Ds _ HB9.out HM9.out⟩
      · have q0 : decide (0 < (sz : Int)) = true := decide_eq_true (by omega)
        have q0' : decide (0 < sz) = true := decide_eq_true (by omega)
        have hlen := HDL.out.len Try.underlying76 3
        rw [← hsz] at hlen
        obtain ⟨wB, hclr, hownB, hturnB⟩ := clear_run HDG.out Try.underlying76 0
        obtain ⟨wC, hrun, hrgC, hgC, hsC⟩ := (HDL.out.kept hturnB.grown (by simp; omega)).range (Maps.int_keyed Try.underlying3) Try.underlying76
        have hHOB := Lib.hid hownB
        have hzB := turned_size hturnB
        have HHB : w.heap.size < bG ∧ bG < bq ∧ bG ≠ bL ∧ bL < bq ∧ w.heap.size < bL := by
          have h1 := HPW.out
          have h2 := HBQ.out
          rcases hbb with ⟨rfl, rfl⟩ | ⟨rfl, rfl⟩ <;> omega
        have hitq : bq + 1 ≤ wr.heap.size := HK.out.2.2.2.2
        obtain ⟨it, hit⟩ : ∃ it, it = wr.heap.size := ⟨_, rfl⟩
        rw [hzB, ← hit] at hrun hrgC
        rw [← hit] at hitq
        have HHI : w.heap.size < it ∧ it ≠ bq ∧ it ≠ bG := by omega
        have HMR := Lib.hid (show MxR w n (.slice a l.length cap) bq bL bG it P DL (Maps.has DL) (Maps.size DL) 0 (.map []) u3 L Ds wC by
          have hgB := hturnB.grown
          refine ⟨(HMK.out.keep fun D hD => hgB.block D (HMK.out.lt hD) fun e => by have := (HMK.out.2 D hD).1; have := Option.some.inj e; omega).grown hgC, (HK.out.keep hgB fun r e => ?_).keep hgC (fun r e => by cases e), hrgC, hHOB.out.kept hgC (by simp)⟩
          cases e
          exact ⟨HHB.1, by omega, fun hk => by have := (HK.out.2.2.1.lt _ hk).1; omega⟩)
        have cqB : wB.cell? ⟨bq, 0, none⟩ = some (.map (some bG)) := by
          have := (hturnB.grown.block bq (by omega) (by simp; omega))
          exact (World.cell?_of_block (a := ⟨bq, 0, none⟩) this).trans cq'
        clear hsz hownB hturnB hgC hsC hzB hrgC hit cq c0 c1 cz
        gi_wp2
        clear cqB cq' hlen hclr hrun q0 q0'
        refine wpIn_loop (fun a' wy => ∃ (u3 u6 u7 u8 u21 u22 u23 u24 u25 u26 u27 u28 u29 u30 u31 u32 u33 u34 u35 u36 u37 u38 u39 u40 u41 u42 u43 u44 u45 u46 : Value) (ds : List Deferred), (∃ (left : Lit → Bool) (cnt nn : Nat) (DG : DataW Unit) (L : List Int) (Ds : List Nat), ds = markL Ds ∧ nn + 7 * cnt ≤ 7 * P ∧ L.length + cnt ≤ 2 * P ∧ Hid (MxR w n (.slice a l.length cap) bq bL bG it P DL left cnt nn DG u3 L Ds wy) ∧ Hid (∀ kl, left kl = true → Maps.has DL kl = true) ∧ Hid (KeysAre DG (NextS l k left)) ∧ Hid (InL l k left L)) ∧ a' = { tmps := #[.agg #[.int .i64 n, .slice a l.length cap], .pointer (some ⟨w.heap.size, 0, none⟩), .slice none 0 0, u3, .map (some bL), .pointer (some ⟨bq, 0, none⟩), u6, u7, u8, .agg #[.int .i64 n, .slice a l.length cap], .bool true, .bool false, .map (some b1), .map (some b1), .map (some (b1 + 1)), .map (some bL), .int .i64 (sz : Int), .bool true, .map (some bG), .map (some bL), .pointer (some ⟨it, 0, none⟩), u21, u22, u23, u24, u25, u26, u27, u28, u29, u30, u31, u32, u33, u34, u35, u36, u37, u38, u39, u40, u41, u42, u43, u44, u45, u46], defers := ds }) (fun _ wy => wy.rangeLeft bL it) ?inStart ?inRound
        case inStart =>
          (repeat apply Exists.intro)
          refine ⟨⟨Maps.has DL, Maps.size DL, 0, _, L, Ds, rfl, ?_, ?_, HMR.out, fun _ h => h, keys_empty.same (next_start HKL.out), inL_start HIK.out HKL.out⟩, rfl⟩
          · rw [← HSZ.out]; omega
          · rw [← HSZ.out]; omega
        case inRound =>
          clear HMR hHOB HMK HK HIK HDG hLk
          rintro a' wy ⟨u3, u6, u7, u8, u21, u22, u23, u24, u25, u26, u27, u28, u29, u30, u31, u32, u33, u34, u35, u36, u37, u38, u39, u40, u41, u42, u43, u44, u45, u46, ds, ⟨left, cnt, nn, DG, L, Ds, rfl, hnn, hLc, HMR, HLS, HKG, HIL⟩, rfl⟩
          have HLE := Lib.hid HMR.out.2.2.1.left_eq
          rcases HMR.out.2.2.1.next (Maps.int_keyed Try.underlying3) 0 with ⟨hc0, hl0, hnx⟩ | ⟨key, v, kl, y, wz, cnt', hkey, hlk, hv, hat, hnx, hrg2, hlt2, hg2, hs2, hen⟩
          · have HL0 := Lib.hid hl0
            have cq' := HMR.out.2.1.2.1.cell
            have cf' := HMR.out.2.1.2.1.frozen
            have hk7' : k + 1 ≤ 8 := by
              obtain ⟨kl, hkl⟩ := some_of_size HDL.out (Maps.int_keyed Try.underlying3) (by rw [← HSZ.out]; omega)
              obtain ⟨X, hX, -⟩ := (HKL.out kl).1 hkl
              rcases Nat.lt_or_ge k 8 with h8 | h8
              · omega
              · obtain rfl : k = 8 := by omega
                exact absurd hX (lv_eight l X)
            have HSW := Lib.hid (HMR.out.swap ⟨by omega, HHB.2.2.2.1, HHB.2.1⟩ (by omega))
            have HP7 : 7 ^ (k + 1) = 7 * P := by rw [HP.out, Nat.pow_succ]; omega
            have HPP := Lib.hid HP7
            clear HP7
            gi_wp2
            refine ⟨m - 1, by omega, ?_⟩
            (repeat apply Exists.intro)
            refine ⟨⟨k + 1, bL, P, L, DG, DL, Ds, by omega, hk7', by rw [HPP.out]; omega, by omega, rfl, HSW.out.1, Lib.hid HSW.out.2.1, Lib.hid (by rw [HPP.out]; exact HSW.out.2.2.1), Lib.hid (HKG.out.same fun Y => next_end HG.out hl7 HL0.out Y), Lib.hid HSW.out.2.2.2, Lib.hid (inL_end HIL.out HL0.out)⟩, rfl⟩
          · obtain ⟨x, rfl, rfl, -⟩ := Maps.keyOf_int_inv Try.underlying3 hkey
            obtain ⟨c, rfl⟩ := plain_bool_inv Try.underlying4 hv
            obtain ⟨X, hXL, hx⟩ := (HKL.out _).1 (HLS.out _ hlk)
            obtain rfl : x = (X : Int) := by simpa using hx
            have HXL := Lib.hid hXL
            have hX2 : X < 2 ^ l.length := hXL.1.1
            have hX7 : X < 128 := Nat.lt_of_lt_of_le hX2 (two_le _ hl7)
            have HX2 := Lib.hid hX2
            have HLK := Lib.hid hlk
            obtain ⟨left2, hl2⟩ : ∃ left2, left2 = (fun z : Lit => left z && !z.sameKey (.int .i64 (X : Int))) := ⟨_, rfl⟩
            rw [← hl2] at hrg2
            have HL2 := Lib.hid hl2
            have HM2 := Lib.hid (HMR.out.next HHI hg2 hrg2)
            clear hl2
            obtain ⟨z, hz⟩ : ∃ z, z = wz.heap.size := ⟨_, rfl⟩
            obtain ⟨W1, hW1⟩ : ∃ W1, W1 = wz.alloc (.cells #[.int .i64 X] 3) := ⟨_, rfl⟩
            have HUZ := Lib.hid (show u3.ownBlock ≠ some z from fun e => by have := (HM2.out.2.1.2.2.1.lt _ e).2; omega)
            have HM3 := Lib.hid (show MxR w n (.slice a l.length cap) bq bL bG it P DL left2 cnt' nn DG u3 L Ds W1 by rw [hW1]; exact HM2.out.on (World.grownBy_alloc wz _ none))
            have HBX := Lib.hid (show Boxed W1 z 3 (.int .i64 X) by rw [hW1, hz]; exact Boxed.new wz _ _)
            have hz1' : W1.heap.size = z + 1 := by rw [hW1, hz]; simp
            have hzq : it < z ∧ bq + 1 ≤ z := by
              have h1 := hrg2.lt
              have h2 := HM2.out.2.1.2.2.2.2
              omega
            obtain ⟨⟨c0, c1, cz⟩, -, -, -, -⟩ := HM3.out.2.1
            have cx := HBX.out.cell
            have HII := Lib.hid (HI.out.on HM3.out.2.1.2.2.2.1)
            clear hX2 hXL hx hlk hv hat hkey hg2 hs2 hrg2
            gi_upto_region 10 with fail
            rw [← hW1, ← hz]
            clear hW1 hz hnx hen
            gi_wp2_with fail
            refine ⟨trivial, (callsIn_wide.2 (implCommon n _ l X _ HII.out HG.out HX2.out)).mono ?_⟩
            rintro e w5 ⟨rfl, hb⟩
            have HM5 := Lib.hid (HM3.out.on (below_grown hb))
            have HBX5 := Lib.hid (HBX.out.kept (below_grown hb) (by simp))
            have hz5 : z + 1 ≤ w5.heap.size := by have := hb.size; omega
            have hC2 := comN_lt l X
            have hC7 : comN l X < 128 := Nat.lt_of_lt_of_le hC2 (two_le _ hl7)
            have HC2 := Lib.hid hC2
            obtain ⟨C, hC⟩ : ∃ C, C = comN l X := ⟨_, rfl⟩
            rw [← hC] at hC7 HC2 ⊢
            have HCE := Lib.hid hC
            clear hC hC2 hb cx c0 c1 cz hz1'
            have cx := HBX5.out.cell
            by_cases hC0 : C = 0
            case' pos =>
              have q1 : ((C : Int) == 0) = true := by rw [hC0]; rfl
              have q2 : decide ((C : Int) = 0) = true := decide_eq_true (by omega)
              have HC0 := Lib.hid hC0
              clear hC0
              gi_wp2_with (gi_at_builtin; refine wpListIn_append_own _ rfl (.tmp 30) (.tmp 32) 22 rfl (bq + 1) 3 i0 (.int .i64 0) 1 8 Try.underlying22 hi hi0 hi1 hi2 rfl (by decide) u3 L.length (iv L) rfl (HM5.out.2.1.2.2.1.2.alloc _) ⟨w5.heap.size, 0, none⟩ 1 1 [.int .i64 (X : Int)] rfl rfl (cell_one_new _ _ _) (fun u hu => by simp at hu; subst hu; rfl) (by unfold maxLen; omega) (by omega) (by simp; omega) ?_)
              intro v' w7 hown' hg3 hnil
              obtain ⟨L', hL'⟩ : ∃ L', L' = L ++ [(X : Int)] := ⟨_, rfl⟩
              have HM7 := Lib.hid (show MxR w n (.slice a l.length cap) bq bL bG it P DL left2 cnt' nn DG v' L' Ds w7 by rw [hL']; exact (HM5.out.on (World.grownBy_alloc w5 _ none)).took hX7 ⟨by omega, HHB.2.2.2.1, HHB.2.1⟩ hown' hg3)
              have HBX7 := Lib.hid ((HBX5.out.alloc (.cells #[.int .i64 X] 3)).kept hg3 (fun e => HUZ.out e.symm))
              have HIL7 := Lib.hid (show InL l k left2 L' by rw [hL', HL2.out]; exact inL_yes HIL.out HXL.out HLK.out (by rw [← HCE.out]; exact HC0.out))
              have hLc7 : L'.length + cnt' ≤ 2 * P := by rw [hL']; simp; omega
              have hz7 : z + 1 ≤ w7.heap.size := by have := hg3.size; simp at this; omega
              clear hown' hg3 hnil hL' cx
              obtain ⟨s32, hs32⟩ : ∃ s, s = Value.slice (some ⟨w5.heap.size, 0, none⟩) 1 1 := ⟨_, rfl⟩
              rw [← hs32]
              clear hs32
              obtain ⟨W2, hW2⟩ : ∃ W2, W2 = w7.alloc (.cells #[.int .i64 (C : Int)] 3) := ⟨_, rfl⟩
              gi_wp2_with fail
            case' neg =>
              have q1 : ((C : Int) == 0) = false := by rw [beq_eq_false_iff_ne]; omega
              have q2 : decide ((C : Int) = 0) = false := decide_eq_false (by omega)
              have HC0 := Lib.hid hC0
              clear hC0
              have HIL7 := Lib.hid (show InL l k left2 L by rw [HL2.out]; exact inL_no HIL.out HXL.out (by rw [← HCE.out]; exact HC0.out))
              have hLc7 : L.length + cnt' ≤ 2 * P := by omega
              have HM7 := HM5
              have HBX7 := HBX5
              have hz7 := hz5
              clear cx
              obtain ⟨w7, rfl⟩ : ∃ x, x = w5 := ⟨_, rfl⟩
              obtain ⟨v', rfl⟩ : ∃ x, x = u3 := ⟨_, rfl⟩
              obtain ⟨L', rfl⟩ : ∃ x, x = L := ⟨_, rfl⟩
              obtain ⟨W2, hW2⟩ : ∃ W2, W2 = w7.alloc (.cells #[.int .i64 (C : Int)] 3) := ⟨_, rfl⟩
              gi_wp2_with fail
            all_goals
              refine ⟨trivial, (callsIn_wide.2 (verticesIn_is C _)).mono ?_⟩
              rintro e w6 ⟨rfl, hw6⟩
              obtain rfl : w6 = W2 := by rw [hW2]; exact hw6.symm
              obtain ⟨zz, hzz⟩ : ∃ zz, zz = w7.heap.size := ⟨_, rfl⟩
              have HM8 := Lib.hid (show MxR w n (.slice a l.length cap) bq bL bG it P DL left2 cnt' nn DG v' L' Ds w6 by rw [hW2]; exact HM7.out.on (World.grownBy_alloc w7 _ none))
              have HBX8 := Lib.hid (show Boxed w6 z 3 (.int .i64 X) by rw [hW2]; exact HBX7.out.alloc _)
              have hcB := Lib.hid (show w6.cell? ⟨zz, 0, none⟩ = some (.int .i64 (C : Int)) by rw [hW2, hzz]; simp [go_sem])
              have hz8 : w6.heap.size = zz + 1 := by rw [hW2, hzz]; simp
              rw [← hzz]
              have hzzz : z < zz := by omega
              have HDL7 : Hid (∀ D, D ∈ Ds → D < w6.heap.size) := fun D hD => HM8.out.1.lt hD
              clear hw6 hW2 q1 q2 HM7 HM5 HBX7 HBX5 hz7 hz5 hzz
              gi_wp2_with fail
              first
                | refine wpIn_rangeFunc_ownG (w0 := w6) rfl (by omega) (gf := 108) (lb := #[.pointer (some ⟨zz, 0, none⟩)]) rfl trivial (enters_of Try.func108 (by kernel_rfl) rfl)
                    (vin_stopsC Fence.wide 5 trivial rfl (by omega) zz C w6 (by omega) hcB.out) keepC_t (keepC_b (by omega)) (Below.refl _ _) (fun _ => rfl)
                    (MxI w n (.slice a l.length cap) bq bL bG it P DL left2 cnt' nn (NextS l k left) X C z v' L' Ds w6.heap.size) (fun _ _ _ => False) (mxI_own ⟨by omega, by omega, by omega, by omega, by omega, by omega⟩ HDL7.out) (fun _ _ _ _ _ hs _ _ => hs) ⟨DG, HM8.out, HKG.out.same (fun Y => by simp), HBX8.out, Nat.le_refl _⟩
                    (fun y => { tmps := #[.agg #[.int .i64 n, .slice a l.length cap], .pointer (some ⟨w.heap.size, 0, none⟩), .slice none 0 0, v', .map (some bL), .pointer (some ⟨bq, 0, none⟩), .pointer (some ⟨z, 0, none⟩), .int .i64 (C : Int), .int .i64 (y.1 : Int), .agg #[.int .i64 n, .slice a l.length cap], .bool true, .bool false, .map (some b1), .map (some b1), .map (some (b1 + 1)), .map (some bL), .int .i64 (sz : Int), .bool true, .map (some bG), .map (some bL), .pointer (some ⟨it, 0, none⟩), .tuple #[.bool true, .int .i64 (X : Int), .bool c], .bool true, .tuple #[.int .i64 (X : Int), .bool c], .int .i64 (X : Int), .agg #[.int .i64 n, .slice a l.length cap], .int .i64 (X : Int), .int .i64 (C : Int), .int .i64 (C : Int), .bool true, u3, .int .i64 (X : Int), s32, v', .int .i64 (C : Int), .func (.func 108) #[] #[.pointer (some ⟨zz, 0, none⟩)], .int .i64 (y.1 : Int), u37, u38, u39, u40, u41, u42, u43, u44, u45, u46], defers := [] }) ?assign ?body ?done ?stop
                | refine wpIn_rangeFunc_ownG (w0 := w6) rfl (by omega) (gf := 108) (lb := #[.pointer (some ⟨zz, 0, none⟩)]) rfl trivial (enters_of Try.func108 (by kernel_rfl) rfl)
                    (vin_stopsC Fence.wide 5 trivial rfl (by omega) zz C w6 (by omega) hcB.out) keepC_t (keepC_b (by omega)) (Below.refl _ _) (fun _ => rfl)
                    (MxI w n (.slice a l.length cap) bq bL bG it P DL left2 cnt' nn (NextS l k left) X C z v' L' Ds w6.heap.size) (fun _ _ _ => False) (mxI_own ⟨by omega, by omega, by omega, by omega, by omega, by omega⟩ HDL7.out) (fun _ _ _ _ _ hs _ _ => hs) ⟨DG, HM8.out, HKG.out.same (fun Y => by simp), HBX8.out, Nat.le_refl _⟩
                    (fun y => { tmps := #[.agg #[.int .i64 n, .slice a l.length cap], .pointer (some ⟨w.heap.size, 0, none⟩), .slice none 0 0, v', .map (some bL), .pointer (some ⟨bq, 0, none⟩), .pointer (some ⟨z, 0, none⟩), .int .i64 (C : Int), .int .i64 (y.1 : Int), .agg #[.int .i64 n, .slice a l.length cap], .bool true, .bool false, .map (some b1), .map (some b1), .map (some (b1 + 1)), .map (some bL), .int .i64 (sz : Int), .bool true, .map (some bG), .map (some bL), .pointer (some ⟨it, 0, none⟩), .tuple #[.bool true, .int .i64 (X : Int), .bool c], .bool true, .tuple #[.int .i64 (X : Int), .bool c], .int .i64 (X : Int), .agg #[.int .i64 n, .slice a l.length cap], .int .i64 (X : Int), .int .i64 (C : Int), .int .i64 (C : Int), .bool false, u30, u31, u32, u33, .int .i64 (C : Int), .func (.func 108) #[] #[.pointer (some ⟨zz, 0, none⟩)], .int .i64 (y.1 : Int), u37, u38, u39, u40, u41, u42, u43, u44, u45, u46], defers := [] }) ?assign ?body ?done ?stop
              case assign =>
                intro li y W K hK
                gi_wp2
                exact hK
              case body =>
                rintro li pre y W ⟨DG', hM, hKs, hBz, hN⟩ hlen
                obtain ⟨j, hj7, hjb⟩ := y
                have HMW := Lib.hid hM
                have HKS := Lib.hid hKs
                have HBW := Lib.hid hBz
                have cq := hM.2.1.2.1.cell
                have cx := hBz.cell
                obtain ⟨P2, eP2, hP21, hP22⟩ : ∃ P2, (2 : Int) ^ j = P2 ∧ 1 ≤ P2 ∧ P2 ≤ 128 := ⟨_, rfl, (shl_one' j (by omega)).2.2.2.2, (shl_one' j (by omega)).2.2.2.1⟩
                have g3 : IntKind.i64.wrap (1 * P2) = P2 := IntWalk.i64_in _ (by omega) |>.trans (by omega)
                have g4 : IntKind.i64.wrap P2 = P2 := IntWalk.i64_in _ (by omega)
                obtain ⟨Y, hY⟩ : ∃ Y, Y = X ||| 2 ^ j := ⟨_, rfl⟩
                have hjp : 2 ^ j < 128 := by
                  have := Nat.pow_lt_pow_right (show 1 < 2 by omega) hj7
                  simpa using this
                have hOR : bits .or .i64 (X : Int) P2 = (Y : Int) := by
                  have e2 : P2 = ((2 ^ j : Nat) : Int) := by rw [← eP2]; push_cast; rfl
                  rw [e2, hY]
                  exact (bits_nat X (2 ^ j) hX7 hjp).2
                have HYY := Lib.hid hY
                have hY7 : Y < 128 := by rw [hY]; exact Nat.or_lt_two_pow (n := 7) hX7 hjp
                have hmix : Try.prog.follows .mixedOrders = true := by kernel_rfl
                have hpl : pre.length < 7 := hlen
                have hDR : W.grownBy W.drew none := ⟨rfl, rfl, rfl, Nat.le_refl _, fun _ _ _ => rfl⟩
                have HMD := Lib.hid (HMW.out.on hDR)
                have HDR := Lib.hid hDR
                have hYw : (Lit.int .i64 (Y : Int)).wf = true := by
                  simp only [Lit.wf, Bool.and_eq_true, decide_eq_true_eq]
                  exact ⟨Int.le_trans (show IntKind.i64.min ≤ 0 by decide) (by omega), Int.le_trans (show (Y : Int) ≤ 128 by omega) (by decide)⟩
                obtain ⟨wU, hup, hownU, hgU⟩ := HMD.out.2.2.2.update (Maps.int_keyed Try.underlying3) Try.underlying76 (show nn + pre.length < maxLen by unfold maxLen; omega) (key := .int .i64 (Y : Int)) (val := .bool true) (kl := .int .i64 (Y : Int)) (d := .lit (.bool true)) (ps := []) (Maps.keyOf_int_mk Try.underlying3 hYw) (plainElem_bool Try.underlying4 true)
                have hgW : W.grownBy wU (some bG) := grown_trans (hDR.but (some bG)) hgU
                have HM9 := Lib.hid (HMD.out.turn ⟨HHB.1, HHB.2.1, HHB.2.2.1⟩ hgU hownU)
                have HGW := Lib.hid hgW
                clear hM hKs hBz hY hlen hDR hownU hgU hgW hYw
                gi_wp2
                refine wpIn_region_still_tail 5 hmix (by kernel_rfl) (by kernel_rfl) ?_
                simp only [List.take_succ_cons, List.take_zero, List.drop_succ_cons, List.drop_zero]
                repeat still_step
                refine wpStill_nil ?_
                gi_wp2
                refine ⟨KeepsFrom.of_grownBy HGW.out (fun r e => by cases e; omega), World.cell?_of_block (a := ⟨zz, 0, none⟩) (HGW.out.block zz (by omega) (fun e => by have := Option.some.inj e; omega)), ?_⟩
                refine ⟨_, by simpa [Nat.add_assoc] using HM9.out, ?_, HBW.out.kept HGW.out (fun e => by have := Option.some.inj e; omega), Nat.le_trans hN HGW.out.size⟩
                refine (keys_put HKS.out (by obtain ⟨_, _, _, _, _, hD9⟩ := HMD.out.2.2.2; exact ⟨_, hD9⟩) Y (.lit (.bool true))).same fun Z => ?_
                rw [HYY.out]
                simp only [List.map_append, List.map_cons, List.map_nil, List.mem_append, List.mem_singleton]
                constructor
                · rintro ((h | ⟨v, h1, h2⟩) | h)
                  · exact .inl h
                  · exact .inr ⟨v, .inl h1, h2⟩
                  · exact .inr ⟨j, .inr rfl, h⟩
                · rintro (h | ⟨v, h1 | h1, h2⟩)
                  · exact .inl (.inl h)
                  · exact .inl (.inr ⟨v, h1, h2⟩)
                  · subst h1; exact .inr h2
              case done =>
                rintro D ys W hD hys ⟨DG', hM, hKs, hBz, hN⟩ hK
                have hyl : ys.length ≤ 7 := by
                  have h1 : (ys.map (·.1)).length ≤ 7 := by rw [hys]; exact memU_le _ _
                  simpa using h1
                have HMF := Lib.hid (show MxR w n (.slice a l.length cap) bq bL bG it P DL left2 cnt' (nn + ys.length) DG' v' L' (D :: Ds) W from
                  ⟨hM.1.cons (by omega) hK (fun hm => by have := HDL7.out D hm; omega), hM.2⟩)
                have HKF := Lib.hid (show KeysAre DG' (NextS l k left2) from hKs.same fun Y => by
                  rw [hys, memU_nat, HL2.out, ← next_step HXL.out Y, ← HCE.out]
                  exact or_congr Iff.rfl (exists_congr fun v => and_congr (mem_bit hC7) Iff.rfl))
                have HLE2 := Lib.hid hM.2.2.1.left_eq
                clear hM hKs hBz hN hys hK
                gi_wp2
                refine ⟨?_, ?measure⟩
                (repeat apply Exists.intro)
                refine ⟨?rel, rfl⟩
                case rel => exact ⟨left2, cnt', nn + ys.length, DG', L', D :: Ds, rfl, by omega, hLc7, HMF.out, fun kl hkl => HLS.out kl (by rw [HL2.out] at hkl; exact (Bool.and_eq_true _ _ ▸ hkl).1), HKF.out, HIL7.out⟩
                case measure => rw [HLE.out, HLE2.out]; exact hlt2
              case stop =>
                rintro D c pre W hD hpre h hK
                exact h.elim

end Go.Proofs.Ytpifgmmmmhenmab
