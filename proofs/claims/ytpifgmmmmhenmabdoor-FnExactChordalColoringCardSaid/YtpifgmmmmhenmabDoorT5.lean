/- impl.takeInTurn: the first that fits is taken, in turn. -/
import Derived.Test.YtpifgmmmmhenmabDoorT4
import Derived.Test.YtpifgmmmmhenmabDoorSc
import Derived.Test.YtpifgmmmmhenmabDoorHu
import Derived.Test.YtpifgmmmmhenmabDoorQi
import Derived.Test.YtpifgmmmmhenmabDoorR
import Derived.Test.YtpifgmmmmhenmabDoorGl
import Derived.Test.YtpifgmmmmhenmabDoorG8
import Derived.Test.YtpifgmmmmhenmabDoorJ2
import Derived.Sort.BigQuietIn
import Derived.Sort.CutIn
namespace Go.Proofs.YtpifgmmmmhenmabDoor
set_option linter.unusedVariables false
set_option linter.unusedSimpArgs false
open Go.RowKit Go.Shelf
attribute [local go_sem] Oper.semAt_some

/-- What the test that is handed in answers. -/
def RuleT (f : FuncId) (cp : Array Value) (q N : Nat) (fit : Nat → Nat → Bool) (w : World) : Prop :=
  ∀ (W : World) (X v : Nat), Only q (q + 1) w W → Boxed W q 3 (.int .i64 (X : Int)) → X < 2 ^ N → X.testBit v = true → Calls Tryd.prog f (#[.int .i64 (v : Int)] ++ cp) W fun e w' => e = .returned (.bool (fit X v)) ∧ Below W.heap.size W w'

/-- What holds while they are taken. -/
def TkK (w : World) (q : Nat) (f : FuncId) (cp : Array Value) (X0 X : Nat) (u : Value) (L : List Int) (W : World) : Prop :=
  Boxed W w.heap.size 98 (.pointer (some ⟨q, 0, none⟩)) ∧ Boxed W (w.heap.size + 1) 92 (.func (.func f) #[] cp) ∧ Boxed W (w.heap.size + 2) 3 (.int .i64 (X0 : Int)) ∧ Boxed W (w.heap.size + 3) 22 u ∧
    Boxed W q 3 (.int .i64 (X : Int)) ∧ OwnI (w.heap.size + 3) W u L ∧ Only q (q + 1) w W ∧ w.heap.size + 4 ≤ W.heap.size

theorem TkK.keep {w : World} {q : Nat} {f : FuncId} {cp : Array Value} {X0 X : Nat} {u : Value} {L : List Int} {W W' : World} {row : Option Nat} (h : TkK w q f cp X0 X u L W) (hg : W.grownBy W' row)
    (hr : ∀ r, row = some r → w.heap.size ≤ r ∧ ∃ o : Obj, W.heap[r]? = some o ∧ o.isCells = false) : TkK w q f cp X0 X u L W' := by
  obtain ⟨h1, h2, h3, h4, h5, h6, h7, h8⟩ := h
  have hB : ∀ {b : Nat} {t : TypeId} {v : Value}, Boxed W b t v → Boxed W' b t v := fun {b t v} hb => hb.kept hg fun e => by
    obtain ⟨-, o, h1, h2⟩ := hr b e.symm
    rw [show W.heap[b]? = _ from hb] at h1
    cases h1; cases h2
  refine ⟨hB h1, hB h2, hB h3, hB h4, hB h5, h6.block fun k hk => hg.block k (h6.lt k hk).2 fun e => ?_, h7.thenGH hg (Nat.le_refl _) fun r e => (hr r e).1, Nat.le_trans h8 hg.size⟩
  obtain ⟨-, o, h9, h10⟩ := hr k e.symm
  rcases h6.2.2 with ⟨rfl, _⟩ | ⟨g, cap, cur, rfl, _, h11, _⟩
  · simp [Value.ownBlock] at hk
  · obtain rfl : g = k := by simpa [Value.ownBlock] using hk
    rw [h11] at h9
    cases h9; cases h10

theorem TkK.on {w : World} {q : Nat} {f : FuncId} {cp : Array Value} {X0 X : Nat} {u : Value} {L : List Int} {W W' : World} (h : TkK w q f cp X0 X u L W) (hb : Below W.heap.size W W') : TkK w q f cp X0 X u L W' := h.keep (below_grown hb) (fun r e => by cases e)

theorem TkK.shut {w : World} {q : Nat} {f : FuncId} {cp : Array Value} {X0 X : Nat} {u : Value} {L : List Int} {B : Nat} (hB : w.heap.size ≤ B) : ∀ (Ds : List Nat) (W : World), MarksOk B Ds W → TkK w q f cp X0 X u L W → TkK w q f cp X0 X u L (shut W Ds) := by
  intro Ds
  induction Ds with
  | nil => exact fun W _ h => h
  | cons D Ds ih =>
    intro W hm h
    have hD := hm.2 D (by simp)
    refine ih _ ⟨(List.nodup_cons.1 hm.1).2, fun E hE => ⟨(hm.2 E (by simp [hE])).1, ?_⟩⟩ (h.keep (grownBy_putObj' W D (.deferred none)) (fun r e => by cases e; exact ⟨by omega, _, hD.2, rfl⟩))
    have hne : E ≠ D := fun e => (List.nodup_cons.1 hm.1).1 (e ▸ hE)
    exact (World.putObj_heap_other hne).trans (hm.2 E (by simp [hE])).2

/-- The set is put back: nothing of what lay before has turned. -/
theorem TkK.back {w : World} {q : Nat} {f : FuncId} {cp : Array Value} {X0 X : Nat} {u : Value} {L : List Int} {W : World} (h : TkK w q f cp X0 X u L W) (hb : Boxed w q 3 (.int .i64 (X0 : Int))) :
    Below w.heap.size w (W.setCell ⟨q, 0, none⟩ (.int .i64 (X0 : Int))) ∧ OwnI w.heap.size (W.setCell ⟨q, 0, none⟩ (.int .i64 (X0 : Int))) u L := by
  obtain ⟨h1, h2, h3, h4, h5, h6, h7, h8⟩ := h
  have hq := hb.lt
  refine ⟨⟨h7.os, h7.tape, h7.output, by simpa [World.setCell] using h7.size, fun k hk => ?_⟩, (h6.setBelow (a := ⟨q, 0, none⟩) (by show q < _; omega) _).mono (by omega)⟩
  by_cases e : k = q
  · subst e
    exact (h5.set _).trans hb.symm
  · exact (Below.heap_setCell _ _ _ _ e).trans (h7.block k hk (by omega))

theorem TkK.drew {w : World} {q : Nat} {f : FuncId} {cp : Array Value} {X0 X : Nat} {u : Value} {L : List Int} {W : World} (h : TkK w q f cp X0 X u L W) : TkK w q f cp X0 X u L W.drew := by
  obtain ⟨h1, h2, h3, h4, h5, h6, h7, h8⟩ := h
  exact ⟨h1, h2, h3, h4, h5, h6, ⟨h7.os, h7.tape, h7.output, h7.size, h7.block⟩, h8⟩

theorem TkK.setq {w : World} {q : Nat} {f : FuncId} {cp : Array Value} {X0 X : Nat} {u : Value} {L : List Int} {W : World} (h : TkK w q f cp X0 X u L W) (hq : q < w.heap.size) (X' : Nat) : TkK w q f cp X0 X' u L (W.setCell ⟨q, 0, none⟩ (.int .i64 (X' : Int))) := by
  obtain ⟨k1, k2, k3, k4, k5, k6, k7, k8⟩ := h
  exact ⟨k1.other (by omega) _, k2.other (by omega) _, k3.other (by omega) _, k4.other (by omega) _, k5.set _, k6.setBelow (a := ⟨q, 0, none⟩) (by show q < _; omega) _, k7.setCH (Nat.le_refl _) (by omega) _, by simpa [World.setCell] using k8⟩

theorem TkK.took {w : World} {q : Nat} {f : FuncId} {cp : Array Value} {X0 X X' : Nat} {u : Value} {L : List Int} {W w7 : World} (h : TkK w q f cp X0 X u L W) (hq : q < w.heap.size) {k : Nat} (hk : k < 7) {g' cap' : Nat} {tmp : Obj}
    (hown' : w7.ownsRow (w.heap.size + 3) 3 1 (.slice (some ⟨g', 0, none⟩) (L.length + 1) cap') (L.length + 1) (iv L ++ [.int .i64 (k : Int)])) (hg3 : (W.alloc tmp).grownBy w7 u.ownBlock) :
    Boxed w7 (w.heap.size + 3) 22 u ∧ TkK w q f cp X0 X (.slice (some ⟨g', 0, none⟩) (L.length + 1) cap') (L ++ [(k : Int)]) (w7.setCell ⟨w.heap.size + 3, 0, none⟩ (.slice (some ⟨g', 0, none⟩) (L.length + 1) cap')) ∧
      TkK w q f cp X0 X' (.slice (some ⟨g', 0, none⟩) (L.length + 1) cap') (L ++ [(k : Int)]) ((w7.setCell ⟨w.heap.size + 3, 0, none⟩ (.slice (some ⟨g', 0, none⟩) (L.length + 1) cap')).drew.setCell ⟨q, 0, none⟩ (.int .i64 (X' : Int))) ∧
      KeepsOthers W (w7.setCell ⟨w.heap.size + 3, 0, none⟩ (.slice (some ⟨g', 0, none⟩) (L.length + 1) cap')) := by
  obtain ⟨h1, h2, h3, h4, h5, h6, h7, h8⟩ := h
  obtain ⟨b1, b2, b3, b4, b5⟩ := h4.appended (by decide) h6.2 (by omega) (Nat.le_refl _) hown' hg3
  have hne : ∀ b, b < w.heap.size + 3 → some b ≠ u.ownBlock := fun b hb e => by have := (h6.lt b e.symm).1; omega
  have hB : ∀ {b : Nat} {t : TypeId} {v : Value}, Boxed W b t v → b < w.heap.size + 3 → Boxed (w7.setCell ⟨w.heap.size + 3, 0, none⟩ (.slice (some ⟨g', 0, none⟩) (L.length + 1) cap')) b t v := fun {b t v} hb hlt =>
    (((hb.alloc tmp).kept hg3 (hne b hlt))).other (by omega) _
  have hO : OwnI (w.heap.size + 3) (w7.setCell ⟨w.heap.size + 3, 0, none⟩ (.slice (some ⟨g', 0, none⟩) (L.length + 1) cap')) (.slice (some ⟨g', 0, none⟩) (L.length + 1) cap') (L ++ [(k : Int)]) :=
    ⟨inI64_append h6.1 (inI64_one (by omega) (by omega)), by have h3 := b3; rw [iv_snoc] at h3; simpa using h3⟩
  have hY : Only q (q + 1) w (w7.setCell ⟨w.heap.size + 3, 0, none⟩ (.slice (some ⟨g', 0, none⟩) (L.length + 1) cap')) :=
    ((h7.thenGH (World.grownBy_alloc W tmp none) (Nat.le_refl _) (fun r e => by cases e)).thenGH hg3 (Nat.le_refl _) (fun r e => by have := (h6.lt r e).1; omega)).thenGH (grownBy_setCell' w7 (w.heap.size + 3) _) (Nat.le_refl _) (fun r e => by cases e; omega)
  have hz : w.heap.size + 4 ≤ (w7.setCell ⟨w.heap.size + 3, 0, none⟩ (.slice (some ⟨g', 0, none⟩) (L.length + 1) cap')).heap.size := Nat.le_trans h8 b5.size
  have K1 : TkK w q f cp X0 X (.slice (some ⟨g', 0, none⟩) (L.length + 1) cap') (L ++ [(k : Int)]) (w7.setCell ⟨w.heap.size + 3, 0, none⟩ (.slice (some ⟨g', 0, none⟩) (L.length + 1) cap')) :=
    ⟨hB h1 (by omega), hB h2 (by omega), hB h3 (by omega), b2, hB h5 (by omega), hO, hY, hz⟩
  refine ⟨b1, K1, ?_, b4⟩
  exact (K1.drew).setq hq X'

set_option maxHeartbeats 4000000 in
set_option maxRecDepth 100000 in
theorem undo_is (w : World) (q : Nat) (f : FuncId) (cp : Array Value) (X0 X : Nat) (u : Value) (L : List Int) (W : World) (h : TkK w q f cp X0 X u L W) :
    CallsDIn Fence.wide 5 Tryd.prog 98 #[.pointer (some ⟨w.heap.size + 1 + 1, 0, none⟩), .pointer (some ⟨w.heap.size, 0, none⟩)] .returning W fun e u' w' => u' = .returning ∧ e = .returned (.tuple #[]) ∧ w' = W.setCell ⟨q, 0, none⟩ (.int .i64 (X0 : Int)) := by
  refine callsDIn_of_wp (R := fun e w' => e = .returned (.tuple #[]) ∧ w' = W.setCell ⟨q, 0, none⟩ (.int .i64 (X0 : Int))) Tryd.func98 rfl trivial ?_ rfl
  simp only [Tryd.ntmps98, List.size_toArray, List.length_cons, List.length_nil, Nat.reduceAdd, Nat.reduceSub, Array.replicate_succ, Array.replicate_zero, List.push_toArray, List.append_toArray, List.nil_append, List.cons_append]
  have c1 := h.1.cell
  have c2 : W.cell? ⟨w.heap.size + 1 + 1, 0, none⟩ = some (.int .i64 (X0 : Int)) := h.2.2.1.cell
  have c3 := h.2.2.2.2.1.cell
  have f3 := h.2.2.2.2.1.frozen
  clear h
  gi_wp2
  refine ⟨rfl, .tuple #[], ?_, rfl, rfl⟩
  simp [results, Tryd.results98, go_sem]

set_option maxHeartbeats 4000000 in
set_option maxRecDepth 100000 in
theorem takeIn_any (f : FuncId) (cp : Array Value) (he : Enters f) (q N X0 : Nat) (fit : Nat → Nat → Bool) (w : World) (hN : N ≤ 7) (hX : X0 < 2 ^ N) (hb : Boxed w q 3 (.int .i64 (X0 : Int))) (hr : RuleT f cp q N fit w) :
    Calls Tryd.prog 81 #[.pointer (some ⟨q, 0, none⟩), .func (.func f) #[] cp] w (GetsLB w.heap.size w (takeO fit 7 [] X0)) := by
  obtain ⟨i0, hi, hi0, hi1, hi2⟩ := info_parts infoInt
  unfold Enters at he
  have HRU := Lib.hid hr
  have hqw := hb.lt
  obtain ⟨R, hR⟩ : ∃ R, R = takeO fit 7 [] X0 := ⟨_, rfl⟩
  have HR := Lib.hid hR
  rw [← hR]
  clear hR hr
  have h128 := two_le N hN
  refine (callsIn_wide (n := 6)).1 ?_
  refine callsIn_of_wp_marks Tryd.func81 rfl trivial ?_ rfl
  simp only [Tryd.ntmps81, List.size_toArray, List.length_cons, List.length_nil, Nat.reduceAdd, Nat.reduceSub, Array.replicate_succ, Array.replicate_zero, List.push_toArray, List.append_toArray, List.nil_append, List.cons_append]
  obtain ⟨w2, hw2⟩ : ∃ w2, w2 = (((w.alloc (.cells #[.pointer (some ⟨q, 0, none⟩)] 98)).alloc (.cells #[.func (.func f) #[] cp] 92)).alloc (.cells #[.int .i64 (X0 : Int)] 3)).alloc (.cells #[.slice none 0 0] 22) := ⟨_, rfl⟩
  have HK2 := Lib.hid (show TkK w q f cp X0 X0 (.slice none 0 0) [] w2 by
    have b1 := Boxed.new w 98 (.pointer (some ⟨q, 0, none⟩))
    have b2 := Boxed.new (w.alloc (.cells #[.pointer (some ⟨q, 0, none⟩)] 98)) 92 (.func (.func f) #[] cp)
    have b3 := Boxed.new ((w.alloc (.cells #[.pointer (some ⟨q, 0, none⟩)] 98)).alloc (.cells #[.func (.func f) #[] cp] 92)) 3 (.int .i64 (X0 : Int))
    have b4 := Boxed.new (((w.alloc (.cells #[.pointer (some ⟨q, 0, none⟩)] 98)).alloc (.cells #[.func (.func f) #[] cp] 92)).alloc (.cells #[.int .i64 (X0 : Int)] 3)) 22 (.slice none 0 0)
    rw [World.size_alloc] at b2
    rw [World.size_alloc, World.size_alloc] at b3
    rw [World.size_alloc, World.size_alloc, World.size_alloc] at b4
    rw [hw2]
    exact ⟨((b1.alloc _).alloc _).alloc _, (b2.alloc _).alloc _, b3.alloc _, b4, (((hb.alloc _).alloc _).alloc _).alloc _, ⟨inI64_nil, World.ownsRow_nil _ _ _ _⟩,
      Only.of_below _ _ ((((((Below.refl _ w).alloc (Nat.le_refl _) _).alloc (by simp) _).alloc (by simp <;> omega) _)).alloc (by simp <;> omega) _), by simp⟩)
  have c0 : (w.alloc (.cells #[.pointer (some ⟨q, 0, none⟩)] 98)).cell? ⟨q, 0, none⟩ = some (.int .i64 (X0 : Int)) := (hb.alloc _).cell
  have c1 : ((w.alloc (.cells #[.pointer (some ⟨q, 0, none⟩)] 98)).alloc (.cells #[.func (.func f) #[] cp] 92)).cell? ⟨q, 0, none⟩ = some (.int .i64 (X0 : Int)) := ((hb.alloc _).alloc _).cell
  gi_wp2_with fail
  refine wpIn_scopeN ?_
  gi_upto_region 4 with fail
  rw [← hw2]
  clear hw2 c0 c1
  refine wpIn_label ?_
  gi_wp2
  refine wpIn_loop (fun a' w' => ∃ (u8 u13 u14 u15 u16 u17 u18 u19 u20 u21 u22 u23 u24 u25 u26 u27 u28 u29 u30 u31 u32 u33 u34 u35 u36 : Value) (ds : List Deferred), (∃ (X fu : Nat) (L : List Int) (u : Value) (Ds : List Nat), X < 2 ^ N ∧ popN X ≤ fu ∧ L.length + fu ≤ 7 ∧ ds = markL Ds ++ [{ target := .fn (.func 98) #[.pointer (some ⟨w.heap.size + 1 + 1, 0, none⟩), .pointer (some ⟨w.heap.size, 0, none⟩)], args := #[] }] ∧ MarksOk (w.heap.size + 4) Ds w' ∧ Hid (TkK w q f cp X0 X u L w') ∧ Hid (R = takeO fit fu L X)) ∧ a' = { tmps := #[.pointer (some ⟨q, 0, none⟩), .func (.func f) #[] cp, .pointer (some ⟨w.heap.size, 0, none⟩), .pointer (some ⟨w.heap.size + 1, 0, none⟩), .slice none 0 0, .bool false, .pointer (some ⟨w.heap.size + 1 + 1, 0, none⟩), .pointer (some ⟨w.heap.size + 1 + 1 + 1, 0, none⟩), u8, .pointer (some ⟨q, 0, none⟩), .pointer (some ⟨q, 0, none⟩), .int .i64 (X0 : Int), .func (.func 98) #[] #[.pointer (some ⟨w.heap.size + 1 + 1, 0, none⟩), .pointer (some ⟨w.heap.size, 0, none⟩)], u13, u14, u15, u16, u17, u18, u19, u20, u21, u22, u23, u24, u25, u26, u27, u28, u29, u30, u31, u32, u33, u34, u35, u36], defers := ds }) (fun _ w' => (intOf ((w'.cell? ⟨q, 0, none⟩).getD undef)).toNat) ?atStart ?round
  case atStart =>
    (repeat apply Exists.intro)
    refine ⟨⟨X0, 7, [], _, [], hX, ?_, by simp, rfl, MarksOk.nil _ _, HK2.out, HR.out⟩, rfl⟩
    unfold popN memN
    exact Nat.le_trans (List.length_filter_le _ _) (by simp)
  case round =>
    clear HK2 HR hX
    rintro a' wr ⟨u8, u13, u14, u15, u16, u17, u18, u19, u20, u21, u22, u23, u24, u25, u26, u27, u28, u29, u30, u31, u32, u33, u34, u35, u36, ds, ⟨X, fu, L, u, Ds, hXl, hpop, hLf, rfl, hmk, HK, HRE⟩, rfl⟩
    have HMK := Lib.hid hmk
    clear hmk
    have hX7 : X < 128 := by omega
    have c0 := HK.out.1.cell
    have c1 : wr.cell? ⟨q, 0, none⟩ = some (.int .i64 (X : Int)) := HK.out.2.2.2.2.1.cell
    by_cases hX0 : X = 0
    · subst hX0
      have HRL := Lib.hid (show R = some L by rw [HRE.out, takeO_zero])
      have c2 : wr.cell? ⟨w.heap.size + 1 + 1 + 1, 0, none⟩ = some u := HK.out.2.2.2.1.cell
      have HKS := Lib.hid (HK.out.shut (by omega) Ds wr HMK.out)
      gi_wp2
      refine leave_one (B := w.heap.size + 4) HMK.out rfl (undo_is w q f cp X0 0 u L _ HKS.out) ?_
      refine ⟨_, by simp [results, Tryd.f81, go_sem]; rfl, ?_⟩
      rw [HRL.out]
      exact ⟨_, rfl, (HKS.out.back hb).2, (HKS.out.back hb).1⟩
    · have qx : ((X : Int) != 0) = true := by rw [bne_iff_ne]; omega
      have hpp := pop_pos (show 0 < X by omega) hX7
      obtain ⟨fu', rfl⟩ : ∃ k, fu = k + 1 := ⟨fu - 1, by omega⟩
      obtain ⟨W2, hW2⟩ : ∃ W2, W2 = wr.alloc (.cells #[.int .i64 (X : Int)] 3) := ⟨_, rfl⟩
      obtain ⟨z, hz⟩ : ∃ z, z = wr.heap.size := ⟨_, rfl⟩
      have HK2 := Lib.hid (show TkK w q f cp X0 X u L W2 by rw [hW2]; exact HK.out.keep (World.grownBy_alloc wr _ none) (fun r e => by cases e))
      have HMK2 := Lib.hid (show MarksOk (w.heap.size + 4) Ds W2 by rw [hW2]; exact HMK.out.grown (World.grownBy_alloc wr _ none))
      have hcB := Lib.hid (show W2.cell? ⟨z, 0, none⟩ = some (.int .i64 (X : Int)) by rw [hW2, hz]; simp [go_sem])
      have hz2 : W2.heap.size = z + 1 := by rw [hW2, hz]; simp
      gi_wp2_with fail
      refine ⟨trivial, (callsIn_wide.2 (verticesIn_is X _)).mono ?_⟩
      rintro e w6 ⟨rfl, hw6⟩
      obtain rfl : w6 = W2 := by rw [hW2]; exact hw6.symm
      have HZW := Lib.hid (show w.heap.size + 4 ≤ z by rw [hz]; exact HK.out.2.2.2.2.2.2.2)
      rw [← hz]
      have HCX := Lib.hid c1
      clear hw6 hW2 c0 c1 HK HMK hz
      have HDL : Hid (∀ D, D ∈ Ds → D < w6.heap.size) := fun D hD => HMK2.out.lt hD
      gi_wp2_with fail
      refine wpIn_rangeFunc_ownF (w0 := w6) rfl (by omega) (gf := 77) (lb := #[.pointer (some ⟨z, 0, none⟩)]) rfl trivial (enters_of Tryd.func77 (by kernel_rfl) rfl)
        (vin_stops Fence.wide 5 trivial rfl (by omega) z w6.heap.size X w6 (by omega) (by omega) hcB.out) belowK_t (belowK_b (Nat.le_refl _)) (Below.refl _ _) (fun _ => rfl)
        (fun (pre : List (Mem (X : Int))) W => (∀ y ∈ pre, fit X y.1 = false) ∧ Below w6.heap.size w6 W)
        (fun c (pre : List (Mem (X : Int))) W => c = .exit 1 ∧ ∃ (pre' : List (Mem (X : Int))) (y : Mem (X : Int)) (u' : Value), pre = pre' ++ [y] ∧ (∀ y ∈ pre', fit X y.1 = false) ∧ fit X y.1 = true ∧ TkK w q f cp X0 (X - 2 ^ y.1) u' (L ++ [(y.1 : Int)]) W ∧ MarksOk (w.heap.size + 4) Ds W)
        (fun s A B row hs hg hr => ⟨hs.1, ownFrom_below (β := List (Mem (X : Int))) (Nat.le_refl _) (Nat.le_refl _) s A B row hs.2 hg hr⟩)
        (fun c s A B row hs hg hr => by
          obtain ⟨h1, pre', y, u', h2, h3, h4, h5, h6⟩ := hs
          exact ⟨h1, pre', y, u', h2, h3, h4, h5.keep hg (fun r e => ⟨by have := (hr r e).1; have := HZW.out; omega, (hr r e).2⟩), h6.keep fun D hD => hg.block D (h6.lt hD) (fun e => by have := (hr D e.symm).1; have := HDL.out D hD; omega)⟩)
        ⟨fun y hy => (by cases hy), Below.refl _ _⟩
        (fun y => { tmps := #[.pointer (some ⟨q, 0, none⟩), .func (.func f) #[] cp, .pointer (some ⟨w.heap.size, 0, none⟩), .pointer (some ⟨w.heap.size + 1, 0, none⟩), .slice none 0 0, .bool false, .pointer (some ⟨w.heap.size + 1 + 1, 0, none⟩), .pointer (some ⟨w.heap.size + 1 + 1 + 1, 0, none⟩), .int .i64 (y.1 : Int), .pointer (some ⟨q, 0, none⟩), .pointer (some ⟨q, 0, none⟩), .int .i64 (X0 : Int), .func (.func 98) #[] #[.pointer (some ⟨w.heap.size + 1 + 1, 0, none⟩), .pointer (some ⟨w.heap.size, 0, none⟩)], .pointer (some ⟨q, 0, none⟩), .pointer (some ⟨q, 0, none⟩), .int .i64 (X : Int), .bool true, .pointer (some ⟨q, 0, none⟩), .pointer (some ⟨q, 0, none⟩), .int .i64 (X : Int), .func (.func 77) #[] #[.pointer (some ⟨z, 0, none⟩)], .int .i64 (y.1 : Int), u22, u23, u24, u25, u26, u27, u28, u29, u30, u31, u32, u33, u34, u35, u36], defers := [] }) ?assign ?body ?done ?stop
      case assign =>
        intro li y W K hK
        gi_wp2
        exact hK
      case body =>
        rintro li pre y W ⟨hpre, hB⟩ hlen
        have HKW := Lib.hid (HK2.out.on hB)
        have HMW := Lib.hid (HMK2.out.grown (below_grown hB))
        obtain ⟨k, hk7, hkb⟩ := y
        have hkX : X.testBit k = true := (bitAt_nat X k).1 hkb
        have HCALL := Lib.hid (HRU.out W X k HKW.out.2.2.2.2.2.2.1 HKW.out.2.2.2.2.1 hXl hkX)
        obtain ⟨E, hE⟩ : ∃ E, E = fit X k := ⟨_, rfl⟩
        rw [← hE] at HCALL
        have HE := Lib.hid hE
        have c3 := HKW.out.2.1.cell
        have HPRE := Lib.hid hpre
        have HBW := Lib.hid hB
        clear hE hpre hB
        gi_wp2_with fail
        refine ⟨trivial, (CallsIn.inRound li (callsIn_wide.2 HCALL.out)).mono ?_⟩
        rintro e W3 ⟨rfl, hb⟩
        have HK3 := Lib.hid (HKW.out.on hb)
        have HM3 := Lib.hid (HMW.out.grown (below_grown hb))
        have HKO := Lib.hid (KeepsOthers.of_grownBy (below_grown hb) (by simp))
        have HB3 := Lib.hid (hb.mono HBW.out.size)
        clear hb c3
        cases E with
        | false =>
          gi_wp2
          refine ⟨HKO.out, HB3.out, fun y hy => ?_, HBW.out.trans HB3.out⟩
          rcases List.mem_append.1 hy with hy | hy
          · exact HPRE.out y hy
          · simp at hy
            subst hy
            exact HE.out.symm
        | true =>
          have c7 : W3.cell? ⟨w.heap.size + 1 + 1 + 1, 0, none⟩ = some u := HK3.out.2.2.2.1.cell
          have hz3 : w.heap.size + 4 ≤ W3.heap.size := HK3.out.2.2.2.2.2.2.2
          gi_wp2_with (gi_at_builtin; refine wpListIn_append_own _ rfl (.tmp 25) (.tmp 27) 22 rfl (w.heap.size + 3) 3 i0 (.int .i64 0) 1 8 Tryd.underlying22 hi hi0 hi1 hi2 rfl (by decide) u L.length (iv L) rfl (HK3.out.2.2.2.2.2.1.2.alloc _) ⟨W3.heap.size, 0, none⟩ 1 1 [.int .i64 (k : Int)] rfl rfl (cell_one_new _ _ _) (fun u hu => by simp at hu; subst hu; rfl) (by unfold maxLen; omega) (by omega) (by simp; omega) ?_)
          intro v' w7 hown' hg3 hnil
          obtain ⟨g', cap', rfl⟩ := ownsRow_succ hown'
          obtain ⟨X', hX'⟩ : ∃ X', X' = X - 2 ^ k := ⟨_, rfl⟩
          obtain ⟨b1, hK4, hK5, hO4⟩ := HK3.out.took (X' := X') hqw hk7 hown' hg3
          have HK4 := Lib.hid hK4
          have HO4 := Lib.hid hO4
          have f1 : w7.cell? ⟨w.heap.size + 1 + 1 + 1, 0, none⟩ = some u := b1.cell
          have f2 : w7.frozen? ⟨w.heap.size + 1 + 1 + 1, 0, none⟩ = false := b1.frozen
          obtain ⟨W5, hW5⟩ : ∃ W5, W5 = w7.setCell ⟨w.heap.size + 1 + 1 + 1, 0, none⟩ (.slice (some ⟨g', 0, none⟩) (L.length + 1) cap') := ⟨_, rfl⟩
          have HW5 := Lib.hid (show w7.setCell ⟨w.heap.size + 3, 0, none⟩ (.slice (some ⟨g', 0, none⟩) (L.length + 1) cap') = W5 from hW5.symm)
          have d1 : W5.cell? ⟨w.heap.size, 0, none⟩ = some (.pointer (some ⟨q, 0, none⟩)) := by rw [hW5]; exact hK4.1.cell
          have d2 : W5.cell? ⟨q, 0, none⟩ = some (.int .i64 (X : Int)) := by rw [hW5]; exact hK4.2.2.2.2.1.cell
          have d3 : W5.frozen? ⟨q, 0, none⟩ = false := by rw [hW5]; exact hK4.2.2.2.2.1.frozen
          obtain ⟨P2, eP2, hP21, hP22⟩ : ∃ P, (2 : Int) ^ k = P ∧ 1 ≤ P ∧ P ≤ 128 := ⟨_, rfl, (shl_one' k (by omega)).2.2.2.2, (shl_one' k (by omega)).2.2.2.1⟩
          have g3 : IntKind.i64.wrap (1 * P2) = P2 := IntWalk.i64_in _ (by omega) |>.trans (by omega)
          have g4 : IntKind.i64.wrap P2 = P2 := IntWalk.i64_in _ (by omega)
          have hAN2 : bits .andNot .i64 (X : Int) P2 = (X' : Int) := by
            have e2 : P2 = ((2 ^ k : Nat) : Int) := by rw [← eP2]; push_cast; rfl
            have hs : Sub (2 ^ k) X := fun i hi => by
              rw [Nat.testBit_two_pow] at hi
              obtain rfl := of_decide_eq_true hi
              exact hkX
            rw [e2, hX']
            exact andNot_nat hX7 hs
          have HXX := Lib.hid hX'
          have hmix : Tryd.prog.follows .mixedOrders = true := by kernel_rfl
          clear hK4 hK5 hO4 b1 c7 hown' hg3 hnil hX'
          gi_upto_region 9 with fail
          rw [← hW5]
          clear hW5 f1 f2
          refine wpIn_region_still_tail 7 hmix (by kernel_rfl) (by kernel_rfl) ?_
          simp only [List.take_succ_cons, List.take_zero, List.drop_succ_cons, List.drop_zero]
          repeat still_step
          refine wpStill_nil ?_
          gi_wp2
          have hW := HW5.out
          refine ⟨?_, rfl, pre, ⟨k, hk7, hkb⟩, .slice (some ⟨g', 0, none⟩) (L.length + 1) cap', rfl, HPRE.out, HE.out.symm, ?_, ?_⟩
          · rw [← hW]
            exact ((HKO.out.trans HO4.out).trans (KeepsOthers.setCell _ _ _)).trans (KeepsOthers.drew _)
          · rw [← hW]
            show TkK w q f cp X0 (X - 2 ^ k) _ _ _
            rw [← HXX.out]
            exact (HK4.out.setq hqw X').drew
          · rw [← hW]
            exact ((HM3.out.keep fun E hE => (HO4.out.same E _ (HM3.out.2 E hE).2 rfl).trans (HM3.out.2 E hE).2.symm).setCell (by omega) _).drew
      case done =>
        rintro D ys W hD hys ⟨hall, hB⟩ hK
        have HMW : Hid (MarksOk (w.heap.size + 4) (D :: Ds) W) := (HMK2.out.grown (below_grown hB)).cons (by have := HZW.out; omega) hK fun hDD => by have := HDL.out D hDD; omega
        have HKW := Lib.hid (HK2.out.on hB)
        have HKS := Lib.hid (HKW.out.shut (by omega) (D :: Ds) W HMW.out)
        have HRN := Lib.hid (show R = none by
          rw [HRE.out]
          refine takeO_none (by omega) (find_none fun x hx => ?_)
          rw [← memU_nat, ← hys] at hx
          obtain ⟨y, hy, rfl⟩ := List.mem_map.1 hx
          exact hall y hy)
        clear hall hB hK hys
        gi_wp2
        refine leave_one (B := w.heap.size + 4) (Ds := D :: Ds) HMW.out rfl (undo_is w q f cp X0 X u L _ HKS.out) ?_
        refine ⟨_, by simp [results, Tryd.f81, go_sem]; rfl, ?_⟩
        rw [HRN.out]
        exact ⟨_, rfl, ⟨inI64_nil, World.ownsRow_nil _ _ _ _⟩, (HKS.out.back hb).1⟩
      case stop =>
        rintro D c pre W hD hpre ⟨rfl, pre', y, u', rfl, h3, h4, h5, h6⟩ hK
        have hF : (memN X).find? (fit X) = some y.1 := by
          rw [memU_nat, List.map_append] at hpre
          exact find_prefix hpre (fun x hx => by obtain ⟨y', hy', rfl⟩ := List.mem_map.1 hx; exact h3 y' hy') h4
        obtain ⟨n1, n2, n3, n4, n5, n6⟩ := find_facts hX7 hF
        have HMW : Hid (MarksOk (w.heap.size + 4) (D :: Ds) W) := h6.cons (by have := HZW.out; omega) hK fun hDD => by have := HDL.out D hDD; omega
        have HK5 := Lib.hid h5
        have HRN := Lib.hid (show R = takeO fit fu' (L ++ [(y.1 : Int)]) (X - 2 ^ y.1) by rw [HRE.out, takeO_some (by omega) hF])
        have hp : 0 < 2 ^ y.1 := Nat.pow_pos (by decide)
        have HXL := Lib.hid (show X - 2 ^ y.1 < 2 ^ N by omega)
        have HPP := Lib.hid (show popN (X - 2 ^ y.1) ≤ fu' by omega)
        have HLL := Lib.hid (show (L ++ [(y.1 : Int)]).length + fu' ≤ 7 by simp; omega)
        have HME := Lib.hid (show (intOf ((W.cell? ⟨q, 0, none⟩).getD undef)).toNat < (intOf ((wr.cell? ⟨q, 0, none⟩).getD undef)).toNat by
          have e1 : W.cell? ⟨q, 0, none⟩ = some (.int .i64 ((X - 2 ^ y.1 : Nat) : Int)) := h5.2.2.2.2.1.cell
          rw [e1, HCX.out]
          simp only [Option.getD_some, intOf, Int.toNat_natCast]
          omega)
        clear hF n1 n2 n3 n4 n5 n6 h3 h4 h5 h6 hK hpre hp
        gi_wp2
        refine ⟨?_, HME.out⟩
        (repeat apply Exists.intro)
        refine ⟨?rel, rfl⟩
        case rel => exact ⟨X - 2 ^ y.1, fu', L ++ [(y.1 : Int)], u', D :: Ds, HXL.out, HPP.out, HLL.out, rfl, HMW.out, HK5.out, HRN.out⟩

end Go.Proofs.YtpifgmmmmhenmabDoor
