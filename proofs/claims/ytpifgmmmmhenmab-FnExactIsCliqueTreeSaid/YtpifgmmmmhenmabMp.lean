/- Maps of the call's own as sets of numbers, in a walk inside a fence: the literal's insert, clear, and which keys there are. -/
import Derived.Maps.OwnIn
import Derived.Maps.RangeWalk
import Derived.Maps.OwnSet
import Derived.Sort.MapsRangeIn
import Derived.Test.YtpifgmmmmhenmabGl
namespace Go.Proofs.Ytpifgmmmmhenmab
set_option linter.unusedVariables false
set_option linter.unusedSimpArgs false
open Go.RowKit Go.MapKept Go.ChangeMaps

theorem wpListIn_insert_own {H : Type} {F : Fence} {nF : Nat} {P : Program} (w : World) {ops : Array Oper} {rest : List Oper} {o : Oper} {a : Act} {Q : Exit → Act → World → Prop}
    (hg : o.guard = none) (m x v : Operand) (t : TypeId) (hop : o.op = Op.insert t m x v)
    (k e : TypeId) (K : Maps.Keyed P k) (ht : P.underlying t = some (.map k e)) (R : Value → Option (DataW H × List MemPlace)) (b n : Nat) (D : DataW H)
    (hm : a.eval m = .map (some b)) (hown : w.ownsMap P k R b n D) (hn : n < maxLen) (key val : Value) (kl : Lit) (hx : a.eval x = key) (hv : a.eval v = val) (hkey : keyOf P k key = some kl)
    (d : DataW H) (ps : List MemPlace) (hval : R val = some (d, ps))
    (hK : ∀ w', w'.ownsMap P k R b (n + 1) (D.put kl d) → w.mapTurned w' b → wpListIn F nF P ops Q rest (a.put o.dst undef) w') :
    wpListIn F nF P ops Q (o :: rest) a w := by
  refine wpListIn_plain hg fun K' hK' => ?_
  obtain ⟨w', hrun, r1, r2⟩ := hown.store K ht hn hkey hval
  unfold Oper.wpIn
  refine ⟨by simp [Oper.about, hop], ?_⟩
  rw [Oper.semAt_plain F _ _ (by rw [hop]; intro c hc'; cases hc')]
  simp [execOp, hop, hm, hx, hv, hrun, Result.andThen]
  exact hK' _ _ (hK w' r1 r2)

theorem clear_run {H : Type} {P : Program} {k e t : TypeId} {R : Value → Option (DataW H × List MemPlace)} {w : World} {b n : Nat} {D : DataW H} (h : w.ownsMap P k R b n D) (ht : P.underlying t = some (.map k e)) (ty : TypeId) :
    ∃ w', (Builtin.clear_ #[t] ty #[.map (some b)]).run P w = .ok (.tuple #[]) w' ∧ w'.ownsMap P k R b 0 (.map []) ∧ w.mapTurned w' b := by
  obtain ⟨es, clock, hb, F, hs, rfl⟩ := h
  refine ⟨setBlock w b (.map #[] clock), ?_, ⟨#[], clock, heap_setBlock_same hb _, ⟨by simp, stamped_empty clock, by simp⟩, Nat.le_refl _, rfl⟩, ⟨es, clock, #[], clock, hb, rfl⟩⟩
  simp [Builtin.clear_, run_underlying ht, MapKept.run_getObj_map hb, MapKept.run_setObj_map _ hb, Result.andThen, setBlock]

theorem wpListIn_clear_own {H : Type} {F : Fence} {nF : Nat} {P : Program} (w : World) {ops : Array Oper} {rest : List Oper} {o : Oper} {a : Act} {Q : Exit → Act → World → Prop}
    (hg : o.guard = none) (m : Operand) (t : TypeId) (hop : o.op = Op.call { callee := Callee.builtin Builtin.clear, args := #[m], argTypes := #[t] })
    (k e : TypeId) (ht : P.underlying t = some (.map k e)) (R : Value → Option (DataW H × List MemPlace)) (b n : Nat) (D : DataW H)
    (hm : a.eval m = .map (some b)) (hown : w.ownsMap P k R b n D)
    (hK : ∀ w', w'.ownsMap P k R b 0 (.map []) → w.mapTurned w' b → wpListIn F nF P ops Q rest (a.put o.dst (.tuple #[])) w') :
    wpListIn F nF P ops Q (o :: rest) a w := by
  refine wpListIn_plain hg fun K' hK' => ?_
  obtain ⟨w', hrun, r1, r2⟩ := clear_run hown ht o.type
  unfold Oper.wpIn
  refine ⟨by simp [Oper.about, hop, resolve, Target.leads, Sem.run_pure], ?_⟩
  rw [Oper.semAt_plain F _ _ (by rw [hop]; intro c hc'; cases hc')]
  simp [execOp, hop, resolve, invoke, builtin, hm, hrun, Result.andThen]
  exact hK' _ _ (hK w' r1 r2)

/-- The keys are the numbers of S. -/
def KeysAre (D : DataW Unit) (S : Nat → Prop) : Prop := ∀ kl, Maps.has D kl = true ↔ ∃ X, S X ∧ kl = .int .i64 (X : Int)

theorem keys_empty : KeysAre (.map []) (fun _ => False) := fun kl => ⟨fun h => (by cases h), fun ⟨X, h, _⟩ => h.elim⟩

theorem KeysAre.same {D : DataW Unit} {S T : Nat → Prop} (h : KeysAre D S) (e : ∀ X, S X ↔ T X) : KeysAre D T := fun kl => (h kl).trans ⟨fun ⟨X, h1, h2⟩ => ⟨X, (e X).1 h1, h2⟩, fun ⟨X, h1, h2⟩ => ⟨X, (e X).2 h1, h2⟩⟩

theorem keys_put {D : DataW Unit} {S : Nat → Prop} (h : KeysAre D S) (hm : Maps.IsMap D) (X : Nat) (d : DataW Unit) : KeysAre (D.put (.int .i64 (X : Int)) d) (fun Y => S Y ∨ Y = X) := fun kl => by
  by_cases e : kl = .int .i64 (X : Int)
  · subst e
    rw [Maps.has_put_same hm (show WideAt.IsKeyLit (.int .i64 (X : Int)) from trivial)]
    exact ⟨fun _ => ⟨X, .inr rfl, rfl⟩, fun _ => rfl⟩
  · rw [Maps.has_put_other e, h kl]
    constructor
    · rintro ⟨Y, h1, h2⟩; exact ⟨Y, .inl h1, h2⟩
    · rintro ⟨Y, h1 | rfl, h2⟩
      · exact ⟨Y, h1, h2⟩
      · exact absurd h2 e

theorem none_of_size {D : DataW Unit} (hm : Maps.IsMap D) (h : Maps.size D = 0) (kl : Lit) : Maps.has D kl = false := by
  obtain ⟨es, rfl⟩ := hm
  rw [Maps.size_eq] at h
  rw [List.eq_nil_of_length_eq_zero h]
  rfl

theorem some_of_size {P : Program} {k : TypeId} {R : Value → Option (DataW Unit × List MemPlace)} {w : World} {b n : Nat} {D : DataW Unit} (h : w.ownsMap P k R b n D) (K : Maps.Keyed P k) (hs : 0 < Maps.size D) : ∃ kl, Maps.has D kl = true := by
  obtain ⟨es, rfl, -, hk⟩ := h.entries K
  rw [Maps.size_eq] at hs
  match es, hk, hs with
  | p :: r, hk, _ =>
    refine ⟨p.1, ?_⟩
    rw [Maps.has_eq]
    simp [WideAt.sameKey_self (hk p (by simp))]

theorem plain_bool_inv {P : Program} {e : TypeId} (he : P.underlying e = some .bool) {v : Value} {y : DataW Unit × List MemPlace} (h : plainElem P e v = some y) : ∃ c, v = .bool c := by
  unfold plainElem at h
  rw [he] at h
  cases v <;> simp at h
  exact ⟨_, rfl⟩

theorem int_key_inv {P : Program} {k : TypeId} (hk : P.underlying k = some (.int .i64)) (key : Value) (kl : Lit) (h : keyOf P k key = some kl) : ∃ x, key = .int .i64 x := by
  obtain ⟨x, h1, -, -⟩ := Maps.keyOf_int_inv hk h
  exact ⟨x, h1⟩

end Go.Proofs.Ytpifgmmmmhenmab
