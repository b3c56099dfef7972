/- A scope inside a fence; the way out of a function that has marks and a deferred call. -/
import Derived.ControlIn
import Derived.Scope
import Derived.DefersIn
import Derived.Test.YtpifgmmmmhenmabDoorT3
import Derived.Test.YtpifgmmmmhenmabDoorS1
namespace Go.Proofs.YtpifgmmmmhenmabDoor
set_option linter.unusedVariables false
set_option linter.unusedSimpArgs false
open Go.RowKit

theorem stepR_scopeN {P : Program} {b : Frame} {a : Act} {k : List Item} {cs : List Frame} {w : World} {c : Code} : step P (lone (b.atR a (.code (.scope c) :: k)) cs w) = .next (lone (b.atR a (.code c :: .inScope c :: k)) cs w) :=
  step_lone_go (by simp [stepG, stepG.exec, Frame.atR])

theorem stepR_inScopeN {P : Program} {b : Frame} {a : Act} {k : List Item} {cs : List Frame} {w : World} {c : Code} : step P (lone (b.atR a (.inScope c :: k)) cs w) = .next (lone (b.atR a k) cs w) :=
  step_lone_go (by simp [stepG, stepG.exec, Frame.atR])

theorem wpIn_scopeN {F : Fence} {n : Nat} {P : Program} {Q : Exit → Act → World → Prop} {a : Act} {w : World} {c : Code} (h : c.wpIn F n P (Exit.noGoto Q) a w) : (Code.scope c).wpIn F n P Q a w := by
  intro b k cs hro hb hr
  have h0 : (lone (b.atR a (.code (.scope c) :: k)) cs w).fenced P F := fenced_calm hb hr rfl
  obtain ⟨e, a₁, w₁, hq, harr⟩ := h b (.inScope c :: k) cs hro hb hr
  cases e with
  | normal => exact ⟨.normal, a₁, w₁, hq, .head h0 stepR_scopeN (StepsIn.trans harr (.one (fenced_calm hb hr rfl) stepR_inScopeN))⟩
  | exit id =>
    have hx : exitTo id (.inScope c :: k) = exitTo id k := by simp [exitTo]
    exact ⟨.exit id, a₁, w₁, hq, fun k' hk => .head h0 stepR_scopeN (harr.1 k' (by rw [hx]; exact hk)),
      fun hr' hk => let ⟨k₁, h1, h2⟩ := harr.2 hr' (by rw [hx]; exact hk); ⟨k₁, h1, .head h0 stepR_scopeN h2⟩⟩
  | goto l => exact hq.elim
  | ret => exact ⟨_, a₁, w₁, hq, .of_steps (.one h0 stepR_scopeN) harr⟩
  | panic ch => exact ⟨_, a₁, w₁, hq, .of_steps (.one h0 stepR_scopeN) harr⟩
  | outgrown => exact ⟨_, a₁, w₁, hq, .of_steps (.one h0 stepR_scopeN) harr⟩

theorem leaves_marksR {F : Fence} {n : Nat} {P : Program} {fn : Func} {tmps : Array Value} {R : Ending → World → Prop} {B : Nat} {rest : List Deferred} : ∀ (Ds : List Nat) (W : World), MarksOk B Ds W →
    LeavesInM F n P fn tmps R rest .returning (shut W Ds) → LeavesInM F n P fn tmps R (markL Ds ++ rest) .returning W := by
  intro Ds
  induction Ds with
  | nil => exact fun W _ h => h
  | cons D Ds ih =>
    intro W hm h
    show LeavesInM F n P fn tmps R ({ target := .collected D, args := #[] } :: (markL Ds ++ rest)) .returning W
    refine ⟨by simp, .inl ⟨D, _, rfl, run_takeDeferred (hm.2 D (by simp)).2, ?_⟩⟩
    refine ih _ ⟨(List.nodup_cons.1 hm.1).2, fun E hE => ⟨(hm.2 E (by simp [hE])).1, ?_⟩⟩ h
    have hne : E ≠ D := fun e => (List.nodup_cons.1 hm.1).1 (e ▸ hE)
    exact (World.putObj_heap_other hne).trans (hm.2 E (by simp [hE])).2

/-- The way out of a function whose marks are Ds and which has one deferred call of its own. -/
theorem leave_one {n : Nat} {P : Program} {fn : Func} {tmps : Array Value} {R : Ending → World → Prop} {B : Nat} {Ds : List Nat} {W : World} {g : FuncId} {cap : Array Value} {w2 : World} {v2 : Value} (hm : MarksOk B Ds W)
    (hi : (invoke (.fn (.func g) cap) #[]).run P (shut W Ds) = .ok (.enter g cap) (shut W Ds))
    (hc : CallsDIn Fence.wide (n - 1) P g cap .returning (shut W Ds) fun e u' w' => u' = .returning ∧ e = .returned v2 ∧ w' = w2)
    (h : LeavesInM Fence.wide n P fn tmps R [] .returning w2) : bodyPostM Fence.wide n P fn R .ret { tmps := tmps, defers := markL Ds ++ [{ target := .fn (.func g) cap, args := #[] }] } W := by
  refine leaves_marksR Ds W hm ⟨by simp, .inr ⟨(fun h => by cases h), .func g, cap, g, cap, rfl, hi, fun _ _ => trivial, hc.mono ?_⟩⟩
  rintro e u' w' ⟨rfl, rfl, rfl⟩
  exact h

theorem shut_block {B : Nat} : ∀ (Ds : List Nat) (W : World) (b : Nat), MarksOk B Ds W → b ∉ Ds → (shut W Ds).heap[b]? = W.heap[b]? := by
  intro Ds
  induction Ds with
  | nil => exact fun W b _ _ => rfl
  | cons D Ds ih =>
    intro W b hm hn
    have hD := hm.2 D (by simp)
    refine (ih _ b ⟨(List.nodup_cons.1 hm.1).2, fun E hE => ⟨(hm.2 E (by simp [hE])).1, ?_⟩⟩ (fun h => hn (by simp [h]))).trans (World.putObj_heap_other fun e => hn (by simp [e]))
    have hne : E ≠ D := fun e => (List.nodup_cons.1 hm.1).1 (e ▸ hE)
    exact (World.putObj_heap_other hne).trans (hm.2 E (by simp [hE])).2

theorem shut_grown {B : Nat} : ∀ (Ds : List Nat) (W : World), MarksOk B Ds W → (shut W Ds).os = W.os ∧ (shut W Ds).tape = W.tape ∧ (shut W Ds).output = W.output ∧ (shut W Ds).heap.size = W.heap.size := by
  intro Ds
  induction Ds with
  | nil => exact fun W _ => ⟨rfl, rfl, rfl, rfl⟩
  | cons D Ds ih =>
    intro W hm
    have hD := hm.2 D (by simp)
    obtain ⟨h1, h2, h3, h4⟩ := ih (W.putObj D (.deferred none)) ⟨(List.nodup_cons.1 hm.1).2, fun E hE => ⟨(hm.2 E (by simp [hE])).1, by
      have hne : E ≠ D := fun e => (List.nodup_cons.1 hm.1).1 (e ▸ hE)
      exact (World.putObj_heap_other hne).trans (hm.2 E (by simp [hE])).2⟩⟩
    exact ⟨h1, h2, h3, h4.trans (by simp [World.putObj])⟩

theorem shut_onlyN {B : Nat} (Ds : List Nat) (W : World) (hm : MarksOk B Ds W) {lo hi : Nat} {w : World} (h : Only lo hi w W) (hB : w.heap.size ≤ B) : Only lo hi w (shut W Ds) := by
  obtain ⟨h1, h2, h3, h4⟩ := shut_grown Ds W hm
  exact ⟨h1.trans h.os, h2.trans h.tape, h3.trans h.output, by rw [h4]; exact h.size, fun k hk hn => (shut_block Ds W k hm fun hD => by have := (hm.2 k hD).1; omega).trans (h.block k hk hn)⟩

end Go.Proofs.YtpifgmmmmhenmabDoor
