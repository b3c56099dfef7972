/- Small laws for walks, over any program: one more element for a slice of the call's own; its bytes as a string. -/
import Derived.WalkKit
import Derived.WalkSpells
import Derived.WalkLawsBesides
import Derived.Lib.Hide
import Derived.Lib.UnsafeStr
import Derived.Laws.IdiomStrings
import Derived.Laws.BitsLemmas
import Derived.OwnWalk
import Derived.Deep.AppendLies
import Derived.Deep.RegionLaw
namespace Go.Proofs.Ytpifgmmmmhenmab
set_option linter.unusedVariables false
set_option linter.unusedSimpArgs false
open Go.RowKit

/-- append(s, x) of one element, s the call's own. -/
theorem wpList_append1 {P : Program} {Q : Exit → Act → World → Prop} {ops : Array Oper} {rest : List Oper} {o : Oper} {a : Act} {w W0 : World} (hgd : o.guard = none) (s x : Operand) (t : TypeId)
    (ho : o.op = .call { callee := .builtin .append, args := #[s, x], argTypes := #[t, t] }) (base : Nat) (e : TypeId) (i : TypeInfo) (z : Value) (bytes : Nat) (ht : P.underlying t = some (.slice e)) (hi : P.info? e = some i)
    (hz : i.zero = some z) (hsize : i.size = 1) (hby : i.bytes = bytes) (hzs : z.cells.size = 1) (hbl : bytes ≤ 64) (v : Value) (n : Nat) (xs : List Value) (hs : a.eval s = v) (hown : w.ownsRow base e 1 v n xs)
    (val : Value) (h1 : val.oneCell' = true) (hx : a.eval x = .slice (some ⟨w.heap.size, 0, none⟩) 1 1) (hn : n ≤ 1000000000) (hbase : base ≤ w.heap.size) (hb : Below base W0 w)
    (h : ∀ v' w', w'.ownsRow base e 1 v' (n + 1) (xs ++ [val]) → Below base W0 w' → v' ≠ .slice none 0 0 → wpList P ops Q rest (a.put o.dst v') w') :
    wpList P ops Q (o :: rest) a (w.alloc (.cells #[val] e)) := by
  have hbytes : (n + 1) * bytes ≤ 1000000001 * 64 := Nat.mul_le_mul (by omega) hbl
  refine wpList_append_own _ hgd s x t ho base e i z 1 bytes ht hi hz hsize hby hzs (by decide) v n xs hs (hown.alloc _) ⟨w.heap.size, 0, none⟩ 1 1 [val] hx rfl ?_ ?_ ?_ ?_ ?_ ?_
  · intro j u hj
    match j, hj with
    | 0, hj => simp at hj; subst hj; simp [Addr.add]
  · intro u hu; simp at hu; subst hu; exact h1
  · unfold maxLen; omega
  · omega
  · simp; omega
  · intro v' w' ho' hg hn'
    refine h v' w' ho' ((hb.alloc hbase _).grown hg (by simp; omega) fun k hk => (hown.lt k hk).1) (fun e => ?_)
    have := hn'.1 e
    omega

theorem byteCells_snoc (p : List UInt8) (c : Int) (h0 : 0 ≤ c) (h1 : c < 256) : Lib.byteCells p ++ [Value.int .u8 c] = Lib.byteCells (p ++ [UInt8.ofNat c.toNat]) := by
  obtain ⟨n, rfl⟩ := Int.eq_ofNat_of_zero_le h0
  have hn : n < 256 := by omega
  simp [Lib.byteCells, Nat.mod_eq_of_lt hn]

/-- append(s, c) of one byte. -/
theorem wpList_append_byte {P : Program} {Q : Exit → Act → World → Prop} {ops : Array Oper} {rest : List Oper} {o : Oper} {a : Act} {w W0 : World} (hgd : o.guard = none) (s x : Operand) (t : TypeId)
    (ho : o.op = .call { callee := .builtin .append, args := #[s, x], argTypes := #[t, t] }) (base : Nat) (e : TypeId) (i : TypeInfo) (z : Value) (ht : P.underlying t = some (.slice e)) (hi : P.info? e = some i)
    (hz : i.zero = some z) (hsize : i.size = 1) (hby : i.bytes = 1) (hzs : z.cells.size = 1) (v : Value) (p : List UInt8) (hs : a.eval s = v) (hown : w.ownsRow base e 1 v p.length (Lib.byteCells p))
    (c : Int) (h0 : 0 ≤ c) (h1 : c < 256) (hx : a.eval x = .slice (some ⟨w.heap.size, 0, none⟩) 1 1) (hn : p.length ≤ 1000000000) (hbase : base ≤ w.heap.size) (hb : Below base W0 w)
    (h : ∀ v' w' q, Hid (q = p ++ [UInt8.ofNat c.toNat]) → w'.ownsRow base e 1 v' q.length (Lib.byteCells q) → Below base W0 w' → v' ≠ .slice none 0 0 → wpList P ops Q rest (a.put o.dst v') w') :
    wpList P ops Q (o :: rest) a (w.alloc (.cells #[.int .u8 c] e)) := by
  refine wpList_append1 hgd s x t ho base e i z 1 ht hi hz hsize hby hzs (by decide) v p.length _ hs hown (.int .u8 c) rfl hx hn hbase hb fun v' w' ho' => ?_
  rw [byteCells_snoc p c h0 h1] at ho'
  refine h v' w' _ rfl ?_
  simpa using ho'

/-- append(s, c) of one byte, with the frame that says that only s's own block has turned. -/
theorem wpList_append_byte_g {P : Program} {Q : Exit → Act → World → Prop} {ops : Array Oper} {rest : List Oper} {o : Oper} {a : Act} {w : World} (hgd : o.guard = none) (s x : Operand) (t : TypeId)
    (ho : o.op = .call { callee := .builtin .append, args := #[s, x], argTypes := #[t, t] }) (base : Nat) (e : TypeId) (i : TypeInfo) (z : Value) (ht : P.underlying t = some (.slice e)) (hi : P.info? e = some i)
    (hz : i.zero = some z) (hsize : i.size = 1) (hby : i.bytes = 1) (hzs : z.cells.size = 1) (v : Value) (p : List UInt8) (hs : a.eval s = v) (hown : w.ownsRow base e 1 v p.length (Lib.byteCells p))
    (c : Int) (h0 : 0 ≤ c) (h1 : c < 256) (hx : a.eval x = .slice (some ⟨w.heap.size, 0, none⟩) 1 1) (hn : p.length ≤ 1000000000) (hbase : base ≤ w.heap.size)
    (h : ∀ v' w' q, Hid (q = p ++ [UInt8.ofNat c.toNat]) → w'.ownsRow base e 1 v' q.length (Lib.byteCells q) → (w.alloc (.cells #[.int .u8 c] e)).grownBy w' v.ownBlock → v' ≠ .slice none 0 0 → wpList P ops Q rest (a.put o.dst v') w') :
    wpList P ops Q (o :: rest) a (w.alloc (.cells #[.int .u8 c] e)) := by
  refine wpList_append_own _ hgd s x t ho base e i z 1 1 ht hi hz hsize hby hzs (by decide) v p.length _ hs (hown.alloc _) ⟨w.heap.size, 0, none⟩ 1 1 [.int .u8 c] hx rfl ?_ ?_ ?_ ?_ ?_ ?_
  · intro j u hj
    match j, hj with
    | 0, hj => simp at hj; subst hj; simp [Addr.add]
  · intro u hu; simp at hu; subst hu; rfl
  · unfold maxLen; omega
  · omega
  · simp; omega
  · intro v' w' ho' hg hn'
    rw [byteCells_snoc p c h0 h1] at ho'
    refine h v' w' _ rfl ?_ hg (fun e => ?_)
    · simpa using ho'
    · have := hn'.1 e
      omega

/-- append(s, c, d) of two bytes, as one step of a region that draws its order. -/
theorem step_append_two {P : Program} {Q : Exit → Act → World → Prop} {K : Act → World → Prop} {E : Prop} {ops : Array Oper} {o : Oper} {a : Act} {W W0 : World} (hgd : o.guard = none) (s x : Operand) (t : TypeId)
    (ho : o.op = .call { callee := .builtin .append, args := #[s, x], argTypes := #[t, t] }) (base : Nat) (e : TypeId) (i : TypeInfo) (z : Value) (ht : P.underlying t = some (.slice e)) (hi : P.info? e = some i)
    (hz : i.zero = some z) (hsize : i.size = 1) (hby : i.bytes = 1) (hzs : z.cells.size = 1) (v : Value) (p : List UInt8) (hs : a.eval s = v) (hown : W.ownsRow base e 1 v p.length (Lib.byteCells p))
    (g : Nat) (c d : UInt8) (hx : a.eval x = .slice (some ⟨g, 0, none⟩) 2 2) (hblk : W.heap[g]? = some (.cells #[.int .u8 (c.toNat : Int), .int .u8 (d.toNat : Int)] e (0, 0))) (hn : p.length ≤ 1000000000) (hbase : base ≤ W.heap.size) (hb : Below base W0 W)
    (h : ∀ v' w' q, Hid (q = p ++ [c] ++ [d]) → w'.ownsRow base e 1 v' q.length (Lib.byteCells q) → Below base W0 w' → v' ≠ .slice none 0 0 → K (a.put o.dst v') w') :
    if Region.wanted o (yielded ops a.tmps) = true then Oper.wp P o a W K Q else E := by
  refine step_append_lies _ hgd s x t ho base e i z 1 1 ht hi hz hsize hby hzs (by decide) v p.length _ hs hown ⟨g, 0, none⟩ 2 2 [.int .u8 (c.toNat : Int), .int .u8 (d.toNat : Int)] hx rfl ?_ ?_ (by decide) ?_ ?_ hbase _ rfl ?_
  · intro j u hj
    have hc0 : W.cell? ⟨g, 0, none⟩ = some (.int .u8 (c.toNat : Int)) := by simp [World.cell?, hblk]
    have hc1 : W.cell? ⟨g, 1, none⟩ = some (.int .u8 (d.toNat : Int)) := by simp [World.cell?, hblk]
    match j, hj with
    | 0, hj => simp at hj; subst hj; simpa [Addr.add] using hc0
    | 1, hj => simp at hj; subst hj; simpa [Addr.add] using hc1
  · intro u hu; simp at hu; rcases hu with rfl | rfl <;> rfl
  · unfold maxLen; omega
  · omega
  · intro g' cap w' ho' hg _ _
    refine h _ w' _ rfl ?_ (hb.grown hg hbase fun k hk => (hown.lt k hk).1) (fun e => by simp at e)
    simpa [Lib.byteCells] using ho'

/-- The bytes of a slice of the call's own, as a string. -/
theorem own_string {P : Program} {w : World} {base : Nat} {e src dst : TypeId} {v : Value} {l : List UInt8} (hown : w.ownsRow base e 1 v l.length (Lib.byteCells l)) (hv : v ≠ .slice none 0 0)
    (hs : P.underlying src = some (.slice e)) (he : P.underlying e = some (.int .u8)) (hd : P.underlying dst = some .string) :
    ∃ g cap, v = .slice (some ⟨g, 0, none⟩) l.length cap ∧ (convert src dst (.slice (some ⟨g, 0, none⟩) l.length cap)).run P w = .ok (.string ⟨l.toArray⟩) w := by
  rcases hown.2 with ⟨h, -⟩ | ⟨g, cap, cur, rfl, -, -, -, -, -, -⟩
  · exact absurd h hv
  · exact ⟨g, cap, rfl, run_convert_bytes_back w src dst e ⟨g, 0, none⟩ cap l hs he hd fun j hj => hown.cells (g := g) rfl j _ (by simp [Lib.byteCells, hj])⟩

end Go.Proofs.Ytpifgmmmmhenmab
