/- firstWithPattern: the search by a closure that calls itself. -/
import Derived.Test.YtbmpljclplddeabJ2
import Derived.Test.YtbmpljclplddeabGl
import Derived.Test.YtbmpljclplddeabQ
import Derived.Test.YtbmpljclplddeabV6
import Derived.Laws.EntriesVeiled
import Derived.RangeFuncBox
import Derived.WalkMore
import Derived.Deep.RegionHeld3
namespace Go.Proofs.Ytbmpljclplddeab
set_option linter.unusedVariables false
set_option linter.unusedSimpArgs false
open Go.RowKit

theorem OwnI.take {B : Nat} {w : World} {g cap : Nat} {l : List Int} (h : OwnI B w (.slice (some ⟨g, 0, none⟩) l.length cap) l) {i : Nat} (hi : i ≤ l.length) : OwnI B w (.slice (some ⟨g, 0, none⟩) i cap) (l.take i) := by
  obtain ⟨hin, hx, h2⟩ := h
  refine ⟨fun x hx => hin x (List.mem_of_mem_take hx), ?_⟩
  have hlen : (l.take i).length = i := by rw [List.length_take]; omega
  rw [hlen]
  rcases h2 with ⟨h3, -⟩ | ⟨g', cap', cur, hv, hB, hk, hn, hm, hs, ht⟩
  · cases h3
  · simp only [Value.slice.injEq, Option.some.injEq, Addr.mk.injEq] at hv
    obtain ⟨⟨rfl, -, -⟩, -, rfl⟩ := hv
    refine ⟨by rw [iv_length, hlen, Nat.mul_one], .inr ⟨g, cap, cur, rfl, hB, hk, by omega, hm, hs, ?_⟩⟩
    rw [Nat.mul_one] at ht ⊢
    have : iv (l.take i) = (iv l).take i := by unfold iv; rw [List.map_take]
    rw [this, ← ht, List.take_take, Nat.min_eq_left hi]

/-- What stays as it is while the search runs: the graph's box, the number's, the pattern's and the search's own. -/
def Stay (w : World) (qg qn qj qc : Nat) (n : Int) (v : Value) (N : Nat) (pv cv : Value) (W : World) : Prop :=
  BoxG qg n v W ∧ (W.cell? ⟨qn, 0, none⟩ = some (.int .i64 N) ∧ qn < W.heap.size) ∧ (W.cell? ⟨qj, 0, none⟩ = some pv ∧ qj < W.heap.size) ∧ (W.cell? ⟨qc, 0, none⟩ = some cv ∧ qc < W.heap.size) ∧ Below w.heap.size w W

theorem Stay.keep {w : World} {qg qn qj qc : Nat} {n : Int} {v : Value} {N : Nat} {pv cv : Value} {W W' : World} {row : Option Nat} (h : Stay w qg qn qj qc n v N pv cv W) (hg : W.grownBy W' row)
    (hr : ∀ k, row = some k → k ≠ qg ∧ k ≠ qn ∧ k ≠ qj ∧ k ≠ qc ∧ w.heap.size ≤ k) : Stay w qg qn qj qc n v N pv cv W' := by
  obtain ⟨h1, h2, h3, h4, h5⟩ := h
  obtain ⟨hc, -⟩ := gcell hg
  exact ⟨h1.keep hg (fun e => (hr _ e).1 rfl), ⟨by rw [hc qn 0 h2.2 (fun e => (hr _ e.symm).2.1 rfl)]; exact h2.1, Nat.lt_of_lt_of_le h2.2 hg.size⟩,
    ⟨by rw [hc qj 0 h3.2 (fun e => (hr _ e.symm).2.2.1 rfl)]; exact h3.1, Nat.lt_of_lt_of_le h3.2 hg.size⟩,
    ⟨by rw [hc qc 0 h4.2 (fun e => (hr _ e.symm).2.2.2.1 rfl)]; exact h4.1, Nat.lt_of_lt_of_le h4.2 hg.size⟩,
    h5.grown hg h5.size (fun k hk => (hr k hk).2.2.2.2)⟩

theorem Stay.on {w : World} {qg qn qj qc : Nat} {n : Int} {v : Value} {N : Nat} {pv cv : Value} {W W' : World} (h : Stay w qg qn qj qc n v N pv cv W) (hb : Below W.heap.size W W') : Stay w qg qn qj qc n v N pv cv W' :=
  h.keep (below_grown hb) (by simp)

/-- The list so far, in the box ql: a slice of the block g. -/
def CurG (w : World) (ql g N : Nat) (L : List Int) (W : World) : Prop :=
  W.cell? ⟨ql, 0, none⟩ = some (.slice (some ⟨g, 0, none⟩) L.length N) ∧ W.frozen? ⟨ql, 0, none⟩ = false ∧ ql < W.heap.size ∧ OwnI w.heap.size W (.slice (some ⟨g, 0, none⟩) L.length N) L

theorem CurG.on {w : World} {ql g N : Nat} {L : List Int} {W W' : World} (h : CurG w ql g N L W) (hb : Below W.heap.size W W') : CurG w ql g N L W' := by
  obtain ⟨h1, h2, h3, h4⟩ := h
  obtain ⟨hc, hf⟩ := bcell hb
  exact ⟨by rw [hc ql 0 h3]; exact h1, by rw [hf ql 0 h3]; exact h2, Nat.lt_of_lt_of_le h3 hb.size, h4.on hb⟩

theorem CurG.cells {w : World} {ql g N : Nat} {L : List Int} {W : World} (h : CurG w ql g N L W) (t : Nat) (ht : t < L.length) : W.cell? ⟨g, t, none⟩ = some (.int .i64 (nth L t)) := by
  rcases h.2.2.2.form with ⟨h1, h2⟩ | ⟨g', cap', h1, -, -, -, -, h2, -⟩
  · cases h1
  · simp only [Value.slice.injEq, Option.some.injEq, Addr.mk.injEq] at h1
    obtain ⟨⟨rfl, -, -⟩, -, -⟩ := h1
    exact h2 t ht

/-- Another list put into the box. -/
theorem CurG.put {w : World} {ql g N : Nat} {u : Value} {L : List Int} {W : World} (h1 : W.cell? ⟨ql, 0, none⟩ = some u) (h2 : W.frozen? ⟨ql, 0, none⟩ = false) (h3 : ql < W.heap.size) (hne : g ≠ ql)
    (ho : OwnI w.heap.size W (.slice (some ⟨g, 0, none⟩) L.length N) L) : CurG w ql g N L (W.setCell ⟨ql, 0, none⟩ (.slice (some ⟨g, 0, none⟩) L.length N)) :=
  ⟨World.cell?_setCell_same _ _ _ h1, by rw [World.frozen?_setCell]; exact h2, by simpa using h3, ho.keep (grownBy_setCell' W ql _) (fun k hk j hj => by
    simp [Value.ownBlock] at hk hj
    omega)⟩

/-- append(s, x) of one int that there is room for. -/
theorem wpList_append_fit1 {P : Program} {Q : Exit → Act → World → Prop} {ops : Array Oper} {rest : List Oper} {o : Oper} {a : Act} {w : World} (hgd : o.guard = none) (s x : Operand) (t : TypeId)
    (ho : o.op = .call { callee := .builtin .append, args := #[s, x], argTypes := #[t, t] }) (B : Nat) (i : TypeInfo) (ht : P.underlying t = some (.slice 3)) (hi : P.info? 3 = some i) (hsize : i.size = 1)
    (g cap : Nat) (m : List Int) (hs : a.eval s = .slice (some ⟨g, 0, none⟩) m.length cap) (hown : OwnI B w (.slice (some ⟨g, 0, none⟩) m.length cap) m) (y : Int) (y0 : -9223372036854775808 ≤ y) (y1 : y ≤ 9223372036854775807) (hx : a.eval x = .slice (some ⟨w.heap.size, 0, none⟩) 1 1) (hroom : m.length + 1 ≤ cap)
    (h : ∀ w', OwnI B w' (.slice (some ⟨g, 0, none⟩) (m.length + 1) cap) (m ++ [y]) → (w.alloc (.cells #[.int .i64 y] 3)).grownBy w' (some g) → wpList P ops Q rest (a.put o.dst (.slice (some ⟨g, 0, none⟩) (m.length + 1) cap)) w') :
    wpList P ops Q (o :: rest) a (w.alloc (.cells #[.int .i64 y] 3)) := by
  refine wpList_append_fits _ hgd s x t ho B 3 i 1 ht hi hsize g m.length cap (iv m) hs (hown.2.alloc _) ⟨w.heap.size, 0, none⟩ 1 1 [.int .i64 y] hx rfl ?_ (fun u hu => by simp at hu; subst hu; rfl) hroom fun w' r1 r2 => h w' ⟨inI64_append hown.1 (inI64_one y0 y1), ?_⟩ r2
  · intro j u hj
    match j, hj with
    | 0, hj => simp at hj; subst hj; simp [Addr.add]
  · have hl : (m ++ [y]).length = m.length + 1 := by simp
    rw [hl, ← iv_snoc]
    exact r1

def orL (r : Option (List Int)) (L : List Int) : List Int :=
  match r with
  | some y => y
  | none => L

set_option maxRecDepth 100000 in
theorem enters_complete : Enters 124 := fun args W => by rfl

def complV (qg qn qj qc ql : Nat) : Value := .func (.func 124) #[] #[.pointer (some ⟨ql, 0, none⟩), .pointer (some ⟨qn, 0, none⟩), .pointer (some ⟨qg, 0, none⟩), .pointer (some ⟨qj, 0, none⟩), .pointer (some ⟨qc, 0, none⟩)]

set_option maxHeartbeats 8000000 in
set_option maxRecDepth 100000 in
theorem complete_is (f : FuncId) (cp : Array Value) (pat : Nat → Nat → Bool) (he : Enters f) (n : Int) (v : Value) (lg : List Int) (w : World) (h : Ints w v lg) (hg : IsG n lg) (N : Nat) (hN : N ≤ 7) (hr : Rule f cp N pat w)
    (qg qn qj qc ql g : Nat) (hq : ql ≠ qg ∧ ql ≠ qn ∧ ql ≠ qj ∧ ql ≠ qc ∧ w.heap.size ≤ ql) (hgs : g ≠ qg ∧ g ≠ qn ∧ g ≠ qj ∧ g ≠ qc ∧ w.heap.size ≤ g) (hgl : g ≠ ql) :
    ∀ (k : Nat) (L : List Int) (W : World), Stay w qg qn qj qc n v N (.func (.func f) #[] cp) (complV qg qn qj qc ql) W → CurG w ql g N L W → L.length + k = N → (∀ i, i < L.length → nth L i = (kl L i : Int) ∧ kl L i < lg.length) →
      Calls Try.prog 124 #[.pointer (some ⟨ql, 0, none⟩), .pointer (some ⟨qn, 0, none⟩), .pointer (some ⟨qg, 0, none⟩), .pointer (some ⟨qj, 0, none⟩), .pointer (some ⟨qc, 0, none⟩)] W
        fun e W' => e = .returned (.bool (outS (srchS lg.length (patF lg pat) (fun _ => true) k L))) ∧ Stay w qg qn qj qc n v N (.func (.func f) #[] cp) (complV qg qn qj qc ql) W' ∧ CurG w ql g N (orL (srchS lg.length (patF lg pat) (fun _ => true) k L) L) W' := by
  obtain ⟨i0, hi, hi0, hi1, hi2⟩ := info_parts infoInt
  obtain ⟨a, cap, rfl, -, -⟩ := h.form
  have HI := Lib.hid h
  have HG := Lib.hid hg
  have HRU := Lib.hid hr
  have HQ := Lib.hid hq
  have HGS := Lib.hid hgs
  have HGL := Lib.hid hgl
  have hn7 := hg.2.1
  have hle : (lg.length : Int) ≤ n := by have := hg.2.2.1; omega
  have hge : n ≤ (lg.length : Int) := by have := hg.2.2.1; omega
  have hec := enters_complete
  unfold Enters at he hec
  clear h hg hr hq hgs hgl
  intro k
  induction k with
  | zero =>
    intro L W hS hC hk hL
    have HS := Lib.hid hS
    have HC := Lib.hid hC
    obtain ⟨e0, f0, hql, ho⟩ := hC
    obtain ⟨hb1, ⟨e1, hb2⟩, -, -, -⟩ := hS
    have hk2 : (L.length : Int) = (N : Int) := by omega
    clear hL hb1 ho hb2 hql f0 hi hi0 hi1 hi2
    have d0 : ((L.length : Int) == (N : Int)) = true := by rw [beq_iff_eq]; exact hk2
    have d1 : (L.length == N) = true := by rw [beq_iff_eq]; omega
    clear hk2
    go_enter Try.func124, Try.ntmps124
    go_wp2
    go_step3
    go_wp2
    (first | go_ret | (simp only [Exit.noGoto_ret]; go_ret))
    exact ⟨rfl, HS.out, HC.out⟩
  | succ k ih =>
    intro L W hS hC hk hL
    have HIH := Lib.hid ih
    have HLL := Lib.hid hL
    have HS := Lib.hid hS
    have HC := Lib.hid hC
    obtain ⟨e0, f0, hql, ho⟩ := hC
    obtain ⟨⟨c0, c1, cz⟩, ⟨e1, hb2⟩, -, -, -⟩ := hS
    have d0 : ((L.length : Int) == (N : Int)) = false := by rw [beq_eq_false_iff_ne]; omega
    have d1 : (L.length == N) = false := by rw [beq_eq_false_iff_ne]; omega
    obtain ⟨F, hF⟩ : ∃ F : Nat → Option (List Int), F = fun u => if patF lg pat L u then srchS lg.length (patF lg pat) (fun _ => true) k (L ++ [(u : Int)]) else none := ⟨_, rfl⟩
    obtain ⟨R, hR⟩ : ∃ R, R = srchS lg.length (patF lg pat) (fun _ => true) (k + 1) L := ⟨_, rfl⟩
    have HR := Lib.hid (show R = firstS F lg.length by rw [hR, hF]; rfl)
    have HF := Lib.hid (fun u => show F u = if patF lg pat L u then srchS lg.length (patF lg pat) (fun _ => true) k (L ++ [(u : Int)]) else none by rw [hF])
    rw [← hR]
    have hL7 : L.length ≤ 6 := by omega
    have hroom : L.length + 1 ≤ N := by omega
    have HK := Lib.hid hk
    clear hF hR ih hL ho hk
    go_enter Try.func124, Try.ntmps124
    go_wp2
    go_step3
    go_wp2
    go_step3
    go_wp2
    clear c0 c1 cz e0 e1 f0 hql hb2 d0 d1
    go_loopw [15] (fun x wr => ∃ u : Nat, u ≤ lg.length ∧ x = .int .i64 u ∧ Hid (∀ t, t < u → F t = none) ∧ Hid (Stay w qg qn qj qc n (.slice a lg.length cap) N (.func (.func f) #[] cp) (complV qg qn qj qc ql) wr) ∧ Hid (CurG w ql g N L wr)) (fun x _ => lg.length - (intOf x).toNat)
    case atStart => exact ⟨0, by omega, rfl, fun t ht => absurd ht (by omega), HS.out, HC.out⟩
    case round =>
      clear HS HC
      obtain ⟨u, hu, rfl, HJ, HS, HC⟩ := hrel
      by_cases hlt : u < lg.length
      · have huf : decide ((u : Int) < n) = true := decide_eq_true (by omega)
        have HGOF : Hid (patF lg pat L u = false → ∀ t, t < u + 1 → F t = none) := fun hp t ht => by
          rcases Nat.lt_or_ge t u with h | h
          · exact HJ.out t h
          · obtain rfl : t = u := by omega
            rw [HF.out, hp]; rfl
        obtain ⟨⟨c0, c1, cz⟩, ⟨e1, hb2⟩, -, -, -⟩ := HS.out
        obtain ⟨e0, f0, hql, -⟩ := HC.out
        go_wp2
        clear c0 c1 cz e1 hb2 e0 f0 hql
        go_loopw [7, 8, 20] (fun p q x wr => ∃ i : Nat, i ≤ L.length ∧ x = .int .i64 i ∧ Hid (∀ t, t < i → kl L t ≠ u ∧ edB lg (kl L t) u = pat t L.length) ∧ Hid (Stay w qg qn qj qc n (.slice a lg.length cap) N (.func (.func f) #[] cp) (complV qg qn qj qc ql) wr) ∧ Hid (CurG w ql g N L wr)) (fun _ _ x _ => L.length - (intOf x).toNat)
        case atStart => exact ⟨0, by omega, rfl, fun t ht => absurd ht (by omega), HS.out, HC.out⟩
        case round =>
          clear HS HC
          obtain ⟨i, hiL, rfl, HJ2, HS, HC⟩ := hrel
          obtain ⟨⟨c0, c1, cz⟩, -, ⟨cj, czj⟩, ⟨cc, czc⟩, -⟩ := HS.out
          obtain ⟨e0, f0, hql, -⟩ := HC.out
          have hwz : w.heap.size ≤ wr.heap.size := HS.out.2.2.2.2.size
          by_cases hil : i < L.length
          · obtain ⟨k1, k2⟩ := HLL.out i hil
            obtain ⟨x, hx⟩ : ∃ x, x = kl L i := ⟨_, rfl⟩
            have HXX := Lib.hid hx
            have e2 := HC.out.cells i hil
            rw [k1, ← hx] at e2
            rw [← hx] at k2
            clear k1 hx
            by_cases hxu : x = u
            · have d0 : ((u : Int) == (x : Int)) = true := by rw [beq_iff_eq]; omega
              have d1 : (u == x) = true := by rw [beq_iff_eq]; exact hxu.symm
              have HT := Lib.hid (HGOF.out (by
                unfold patF; rw [decide_eq_false_iff_not]; intro h; exact (h i hil).1 (by rw [← HXX.out]; exact hxu)))
              clear hxu
              go_wp2
              refine wp_region_since (by kernel_rfl) (by kernel_rfl) ?_
              repeat (go_big_quiet_step (fail))
              refine wpQuiet_nil ?_
              intro Y
              clear c0 c1 cz cj czj cc czc e0 f0 hql e2 d0 d1
              go_wp2
              go_roundw
              case rel => exact ⟨u + 1, by omega, by go_num, HT.out, HS.out.on Y.prop, HC.out.on Y.prop⟩
              case measure => simp [intOf]; omega
            · have d0 : ((u : Int) == (x : Int)) = false := by rw [beq_eq_false_iff_ne]; omega
              have d1 : (u == x) = false := by rw [beq_eq_false_iff_ne]; exact fun h => hxu h.symm
              obtain ⟨be, hbe⟩ : ∃ be, be = edB lg x u := ⟨_, rfl⟩
              obtain ⟨bp, hbp⟩ : ∃ bp, bp = pat i L.length := ⟨_, rfl⟩
              have HE := Lib.hid hbe
              have HP := Lib.hid hbp
              have HXU := Lib.hid hxu
              have HC1 : Hid (∀ W, Ints W (.slice a lg.length cap) lg → Calls Try.prog 85 #[.agg #[.int .i64 n, .slice a lg.length cap], .int .i64 x, .int .i64 u] W fun e w' => e = .returned (.bool be) ∧ Below W.heap.size W w') := fun W h => by
                rw [hbe]
                exact areJoined_is n _ lg _ _ W h k2 (by omega)
              have HC2 : Hid (∀ W, Below w.heap.size w W → Calls Try.prog f (#[.int .i64 i, .int .i64 L.length] ++ cp) W fun e w' => e = .returned (.bool bp) ∧ Below W.heap.size W w') := fun W h => by
                rw [hbp]
                exact HRU.out W i L.length hil (by omega) h
              have HST : Hid (∀ W, Below wr.heap.size wr W → W.cell? ⟨qg, 0, none⟩ = some (.int .i64 n) ∧ W.cell? ⟨qg, 1, none⟩ = some (.slice a lg.length cap) ∧ W.cell? ⟨qj, 0, none⟩ = some (.func (.func f) #[] cp) ∧ W.cell? ⟨ql, 0, none⟩ = some (.slice (some ⟨g, 0, none⟩) L.length N) ∧ Ints W (.slice a lg.length cap) lg ∧ Below w.heap.size w W ∧ Below wr.heap.size wr W) := fun W hW =>
                ⟨(HS.out.on hW).1.1, (HS.out.on hW).1.2.1, (HS.out.on hW).2.2.1.1, (HC.out.on hW).1, HI.out.below (HS.out.on hW).2.2.2.2 (Nat.le_refl _), (HS.out.on hW).2.2.2.2, hW⟩
              clear hbe hbp hxu c0 c1 cz cj czj cc czc f0 hql
              by_cases hbb : be = bp
              · subst hbb
                have q1 : (be != be) = false := by simp
                have HT : Hid (∀ t, t < i + 1 → kl L t ≠ u ∧ edB lg (kl L t) u = pat t L.length) := fun t ht => by
                  rcases Nat.lt_or_ge t i with h | h
                  · exact HJ2.out t h
                  · obtain rfl : t = i := by omega
                    rw [← HXX.out, ← HE.out, ← HP.out]; exact ⟨HXU.out, rfl⟩
                go_wp2
                clear e0 e2
                go_region_held3 (fun W => W.cell? ⟨qg, 0, none⟩ = some (.int .i64 n) ∧ W.cell? ⟨qg, 1, none⟩ = some (.slice a lg.length cap) ∧ W.cell? ⟨qj, 0, none⟩ = some (.func (.func f) #[] cp) ∧ W.cell? ⟨ql, 0, none⟩ = some (.slice (some ⟨g, 0, none⟩) L.length N) ∧ Ints W (.slice a lg.length cap) lg ∧ Below w.heap.size w W ∧ Below wr.heap.size wr W)
                  (first | exact HST.out _ (Below.refl _ _).drew | exact HST.out _ (Below.refl _ _) | (go_split_ands; exact HST.out _ (btrans (by assumption) hb)))
                  (first
                    | (go_at_call 85; go_split_ands; refine (HC1.out _ (by assumption)).mono ?_; rintro e wz ⟨rfl, hb⟩)
                    | (go_split_ands; refine (HC2.out _ (by assumption)).mono ?_; rintro e wz ⟨rfl, hb⟩))
                go_split_ands
                have HW := Lib.hid (show Below wr.heap.size wr wz by assumption)
                go_wp2
                go_roundw
                case rel => exact ⟨i + 1, by omega, by go_num, HT.out, HS.out.on HW.out, HC.out.on HW.out⟩
                case measure => simp [intOf]; omega
              · have HT := Lib.hid (HGOF.out (by
                  unfold patF; rw [decide_eq_false_iff_not]; intro h; exact hbb (by rw [HE.out, HP.out, HXX.out]; exact (h i hil).2)))
                obtain rfl : bp = !be := by cases be <;> cases bp <;> simp_all
                have q1 : (be != !be) = true := by cases be <;> rfl
                have q2 : (be ^^ !be) = true := by cases be <;> rfl
                clear hbb
                go_wp2
                clear e0 e2
                go_region_held3 (fun W => W.cell? ⟨qg, 0, none⟩ = some (.int .i64 n) ∧ W.cell? ⟨qg, 1, none⟩ = some (.slice a lg.length cap) ∧ W.cell? ⟨qj, 0, none⟩ = some (.func (.func f) #[] cp) ∧ W.cell? ⟨ql, 0, none⟩ = some (.slice (some ⟨g, 0, none⟩) L.length N) ∧ Ints W (.slice a lg.length cap) lg ∧ Below w.heap.size w W ∧ Below wr.heap.size wr W)
                  (first | exact HST.out _ (Below.refl _ _).drew | exact HST.out _ (Below.refl _ _) | (go_split_ands; exact HST.out _ (btrans (by assumption) hb)))
                  (first
                    | (go_at_call 85; go_split_ands; refine (HC1.out _ (by assumption)).mono ?_; rintro e wz ⟨rfl, hb⟩)
                    | (go_split_ands; refine (HC2.out _ (by assumption)).mono ?_; rintro e wz ⟨rfl, hb⟩))
                go_split_ands
                have HW := Lib.hid (show Below wr.heap.size wr wz by assumption)
                go_wp2
                go_roundw
                case rel => exact ⟨u + 1, by omega, by go_num, HT.out, HS.out.on HW.out, HC.out.on HW.out⟩
                case measure => simp [intOf]; omega
          · obtain rfl : i = L.length := by omega
            have hfit : patF lg pat L u = true := decide_eq_true HJ2.out
            have HFU := Lib.hid (show F u = srchS lg.length (patF lg pat) (fun _ => true) k (L ++ [(u : Int)]) by rw [HF.out, hfit]; rfl)
            have HLN : Hid (∀ i, i < (L ++ [(u : Int)]).length → nth (L ++ [(u : Int)]) i = (kl (L ++ [(u : Int)]) i : Int) ∧ kl (L ++ [(u : Int)]) i < lg.length) := fun i hi => by
              simp at hi
              rcases Nat.lt_or_ge i L.length with h | h
              · rw [nth_append_lt _ _ _ h, nth_snoc_lt _ _ _ h]; exact HLL.out i h
              · obtain rfl : i = L.length := by omega
                rw [nth_append_len, kl_snoc]; exact ⟨rfl, hlt⟩
            have HO := Lib.hid HC.out.2.2.2
            have H0 := Lib.hid e0
            have H1 := Lib.hid f0
            have H2 := Lib.hid hql
            clear hfit c0 c1 cz cj czj cc czc
            go_wp2_with (at_builtin; refine wpList_append_fit1 rfl (.tmp 41) (.tmp 43) 22 rfl w.heap.size i0 Try.underlying22 hi hi1 g N L rfl HO.out (u : Int) (by omega) (by omega) rfl hroom ?_)
            intro w4 ho4 hg4
            have HG4 := Lib.hid (grown_trans (grown_alloc wr (.cells #[.int .i64 (u : Int)] 3) (some g)) hg4)
            have HO4 := Lib.hid ho4
            clear ho4 hg4 e0 f0 hql
            have k4 := gcell HG4.out
            have e4 : w4.cell? ⟨ql, 0, none⟩ = some (.slice (some ⟨g, 0, none⟩) L.length N) := by rw [k4.1 ql 0 H2.out (by have := HGL.out; simp; omega)]; exact H0.out
            have f4 : w4.frozen? ⟨ql, 0, none⟩ = false := by rw [k4.2 ql 0 H2.out (by have := HGL.out; simp; omega)]; exact H1.out
            have hz4 : ql < w4.heap.size := Nat.lt_of_lt_of_le H2.out HG4.out.size
            have HS4 := Lib.hid (HS.out.keep HG4.out (fun k hk => by cases hk; exact HGS.out))
            have hlen : (L ++ [(u : Int)]).length = L.length + 1 := by simp
            have HC5 := Lib.hid (show CurG w ql g N (L ++ [(u : Int)]) (w4.setCell ⟨ql, 0, none⟩ (.slice (some ⟨g, 0, none⟩) (L.length + 1) N)) by
              have := CurG.put (N := N) (L := L ++ [(u : Int)]) e4 f4 hz4 HGL.out (by rw [hlen]; exact HO4.out)
              rwa [hlen] at this)
            have HS5 := Lib.hid (show Stay w qg qn qj qc n (.slice a lg.length cap) N (.func (.func f) #[] cp) (complV qg qn qj qc ql) (w4.setCell ⟨ql, 0, none⟩ (.slice (some ⟨g, 0, none⟩) (L.length + 1) N)) from HS4.out.keep (grownBy_setCell' w4 ql _) (fun k hk => by cases hk; exact HQ.out))
            obtain ⟨w5, hw5⟩ : ∃ w5, w5 = w4.setCell ⟨ql, 0, none⟩ (.slice (some ⟨g, 0, none⟩) (L.length + 1) N) := ⟨_, rfl⟩
            have e5 : (w4.setCell ⟨ql, 0, none⟩ (.slice (some ⟨g, 0, none⟩) (L.length + 1) N)).cell? ⟨qc, 0, none⟩ = some (.func (.func 124) #[] #[.pointer (some ⟨ql, 0, none⟩), .pointer (some ⟨qn, 0, none⟩), .pointer (some ⟨qg, 0, none⟩), .pointer (some ⟨qj, 0, none⟩), .pointer (some ⟨qc, 0, none⟩)]) := HS5.out.2.2.2.1.1
            rw [← hw5] at HC5 HS5
            clear k4 hlen
            go_wp2_with fail
            rw [← hw5]
            clear hw5 e5 e4 f4 hz4 HS4 HO4 HG4 HO H0 H1 H2
            refine (HIH.out (L ++ [(u : Int)]) _ HS5.out HC5.out (by have := HK.out; simp; omega) HLN.out).mono ?_
            rintro e w6 ⟨rfl, hS6, hC6⟩
            have HS6 := Lib.hid hS6
            rw [← HFU.out] at hC6 ⊢
            clear hS6 HS5 HC5 HS HC
            cases hFu : F u with
            | some y =>
              rw [hFu] at hC6
              have HC6 := Lib.hid (show CurG w ql g N y w6 from hC6)
              have HN := Lib.hid (show R = some y by rw [HR.out]; exact firstS_hit hlt HJ.out hFu)
              clear hC6 hFu
              have b0 : outS (some y) = true := rfl
              go_wp2
              (first | go_ret | (simp only [Exit.noGoto_ret]; go_ret))
              exact ⟨by rw [HN.out]; rfl, HS6.out, by rw [HN.out]; exact HC6.out⟩
            | none =>
              rw [hFu] at hC6
              have HC6 := Lib.hid (show CurG w ql g N (L ++ [(u : Int)]) w6 from hC6)
              have HT : Hid (∀ t, t < u + 1 → F t = none) := fun t ht => by
                rcases Nat.lt_or_ge t u with h | h
                · exact HJ.out t h
                · obtain rfl : t = u := by omega
                  exact hFu
              clear hC6 hFu
              have b0 : outS (none : Option (List Int)) = false := rfl
              have hlen : (L ++ [(u : Int)]).length = L.length + 1 := by simp
              obtain ⟨e6, f6, hz6, ho6⟩ := HC6.out
              have HO6 := Lib.hid ho6
              have htk : (L ++ [(u : Int)]).take L.length = L := by simp
              have HC7 := Lib.hid (show CurG w ql g N L (w6.setCell ⟨ql, 0, none⟩ (.slice (some ⟨g, 0, none⟩) L.length N)) by
                have h1 := HO6.out.take (i := L.length) (by omega)
                rw [htk] at h1
                exact CurG.put e6 f6 hz6 HGL.out h1)
              have HS7 := Lib.hid (show Stay w qg qn qj qc n (.slice a lg.length cap) N (.func (.func f) #[] cp) (complV qg qn qj qc ql) (w6.setCell ⟨ql, 0, none⟩ (.slice (some ⟨g, 0, none⟩) L.length N)) from HS6.out.keep (grownBy_setCell' w6 ql _) (fun k hk => by cases hk; exact HQ.out))
              rw [hlen] at e6
              have g1 : IntKind.i64.wrap (((L.length + 1 : Nat) : Int) - 1) = (L.length : Int) := (IntWalk.i64_in _ (by omega)).trans (by omega)
              have g2 : IntKind.i64.wrap ((L.length : Int) + 1 - 1) = (L.length : Int) := (IntWalk.i64_in _ (by omega)).trans (by omega)
              have hlc : L.length ≤ N := by omega
              clear ho6 htk hlen HO6 HS6 HC6
              go_wp2
              go_roundw
              case rel => exact ⟨u + 1, by omega, by go_num, HT.out, HS7.out, HC7.out⟩
              case measure => simp [intOf]; omega
      · obtain rfl : u = lg.length := by omega
        have huf : decide ((lg.length : Int) < n) = false := decide_eq_false (by omega)
        have HN := Lib.hid (show R = none by rw [HR.out]; exact firstS_none.2 HJ.out)
        obtain ⟨⟨c0, c1, cz⟩, -, -, -, -⟩ := HS.out
        go_wp2
        (first | go_ret | (simp only [Exit.noGoto_ret]; go_ret))
        exact ⟨by rw [HN.out]; rfl, HS.out, by rw [HN.out]; exact HC.out⟩

theorem OwnI.made0 (w : World) (B N : Nat) (hB : B ≤ w.heap.size) (hm : N ≤ maxLen) : OwnI B (w.alloc (.cells (madeCells #[.int .i64 0] N) 3)) (.slice (some ⟨w.heap.size, 0, none⟩) 0 N) [] :=
  ⟨inI64_nil, by simp [iv], .inr ⟨w.heap.size, N, madeCells #[.int .i64 0] N, rfl, hB, by show (w.heap.push _)[w.heap.size]? = _; rw [Array.getElem?_push_size], Nat.zero_le _, hm, by rw [size_madeCells, Nat.mul_one], by simp [iv]⟩⟩

theorem run_make0 (N : Nat) (h : N ≤ 7) (W : World) : (Instr.makeSlice 22 (.int .i64 0) (.int .i64 (N : Int))).run Try.prog W = .ok (.slice (some ⟨W.heap.size, 0, none⟩) 0 N) (W.alloc (.cells (madeCells #[.int .i64 0] N) 3)) := by
  obtain ⟨i0, hi, hi0, hi1, hi2⟩ := info_parts infoInt
  have := run_make (P := Try.prog) W 22 3 i0 (.int .i64 0) Try.underlying22 hi hi0 .i64 .i64 0 N (by omega) (by omega) (by rw [hi2]; omega) (by omega)
  rw [hi1, Nat.mul_one] at this
  exact this

set_option maxHeartbeats 8000000 in
set_option maxRecDepth 100000 in
theorem firstWithPattern_any (f : FuncId) (cp : Array Value) (pat : Nat → Nat → Bool) (he : Enters f) (n : Int) (v : Value) (lg : List Int) (w : World) (h : Ints w v lg) (K : Int) (hr : ∀ N : Nat, K = N → N ≤ 7 → Rule f cp N pat w) :
    Calls Try.prog 79 #[.agg #[.int .i64 n, v], .int .i64 K, .func (.func f) #[] cp] w (GetsLB w.heap.size w (fwpR n lg pat K)) := by
  obtain ⟨a, cap, rfl, -, -⟩ := h.form
  have HI := Lib.hid h
  have HRU := Lib.hid hr
  have HNO : Hid (¬ (IsG n lg ∧ 1 ≤ K ∧ K ≤ n) → outL (fwpR n lg pat K) = [] ∧ outS (fwpR n lg pat K) = false) := fun h => by unfold fwpR; rw [if_neg h]; exact ⟨rfl, rfl⟩
  have hmf : ∀ (fn : Fn) (first cap : Array Value) (w : World), (Instr.makeFunc fn first cap).run Try.prog w = .ok (.func fn first cap) w := fun _ _ _ _ => rfl
  have hec := enters_complete
  unfold Enters at hec
  clear h hr
  obtain ⟨W, hW⟩ : ∃ W, W = ((w.alloc (.cells #[.int .i64 n, .slice a lg.length cap] 33)).alloc (.cells #[.int .i64 K] 3)).alloc (.cells #[.func (.func f) #[] cp] 91) := ⟨_, rfl⟩
  have HB0 := Lib.hid (show Below w.heap.size w W by rw [hW]; exact (((Below.refl _ w).alloc (Nat.le_refl _) _).alloc (by simp) _).alloc (by simp <;> omega) _)
  have hsz : W.heap.size = w.heap.size + 3 := by rw [hW]; simp
  have HX0 := Lib.hid (show BoxG w.heap.size n (.slice a lg.length cap) W by rw [hW]; exact ((BoxG.new w 33 n (.slice a lg.length cap) ⟨_, _, _, rfl⟩).keep (grown_alloc _ _ none) (by simp)).keep (grown_alloc _ _ none) (by simp))
  have HX1 := Lib.hid (show W.cell? ⟨w.heap.size + 1, 0, none⟩ = some (.int .i64 K) by rw [hW]; simp [go_sem])
  have HX2 := Lib.hid (show W.cell? ⟨w.heap.size + 2, 0, none⟩ = some (.func (.func f) #[] cp) by rw [hW]; simp [go_sem])
  go_enter Try.func79, Try.ntmps79
  go_wp2_with fail
  try simp only [World.size_alloc]
  rw [← hW]
  clear hW
  refine (implIsG_any n _ lg _ (HI.out.on HB0.out)).mono ?_
  rintro e w1 ⟨r, rfl, hr, hb⟩
  have HB := Lib.hid (HB0.out.trans (hb.mono HB0.out.size))
  have HR := Lib.hid hr
  obtain ⟨hc, hf⟩ := bcell hb
  have x0 : w1.cell? ⟨w.heap.size, 0, none⟩ = some (.int .i64 n) := by rw [hc _ 0 (by omega)]; exact HX0.out.1
  have x0' : w1.cell? ⟨w.heap.size, 1, none⟩ = some (.slice a lg.length cap) := by rw [hc _ 1 (by omega)]; exact HX0.out.2.1
  have x1 : w1.cell? ⟨w.heap.size + 1, 0, none⟩ = some (.int .i64 K) := by rw [hc _ 0 (by omega)]; exact HX1.out
  have x2 : w1.cell? ⟨w.heap.size + 2, 0, none⟩ = some (.func (.func f) #[] cp) := by rw [hc _ 0 (by omega)]; exact HX2.out
  have hz1 : w.heap.size + 3 ≤ w1.heap.size := by have := hb.size; omega
  clear hb hr hc hf HX0 HX1 HX2 hsz
  cases r with
  | false =>
    have HN := Lib.hid (HNO.out fun h => absurd (HR.out.2 h.1) (by decide))
    go_wp2
    go_ret2
    exact ⟨_, by rw [HN.out.2]; rfl, by rw [HN.out.1]; exact OwnI.nil0 _ _, HB.out⟩
  | true =>
    have HG := Lib.hid (HR.out.1 rfl)
    by_cases k1 : 1 ≤ K
    · have d1 : decide (K < 1) = false := decide_eq_false (by omega)
      by_cases k2 : K ≤ n
      · have d2 : decide (n < K) = false := decide_eq_false (by omega)
        obtain ⟨N, rfl⟩ : ∃ N : Nat, K = N := ⟨K.toNat, by omega⟩
        have hn7 := HG.out.2.1
        have hN : N ≤ 7 := by omega
        have hmk := run_make0 N hN
        have HN7 := Lib.hid hN
        have HQ := Lib.hid (show fwpR n lg pat N = srchS lg.length (patF lg pat) (fun _ => true) N [] by
          rw [srch_pat HG.out]; unfold fwpR; rw [if_pos ⟨HG.out, k1, k2⟩]; rfl)
        clear HR HNO k1 k2 hn7 hN
        have HG1 := Lib.hid (show Below w.heap.size w w1 from HB.out)
        obtain ⟨w2, hw2⟩ : ∃ w2, w2 = ((w1.alloc (.cells (madeCells #[.int .i64 0] N) 3)).alloc (.cells #[.slice (some ⟨w1.heap.size, 0, none⟩) 0 N] 22)).alloc (.cells #[complV w.heap.size (w.heap.size + 1) (w.heap.size + 1 + 1) (w1.heap.size + 1 + 1) (w1.heap.size + 1)] 109) := ⟨_, rfl⟩
        have hgr : w1.grownBy w2 none := by rw [hw2]; exact grown_trans (grown_trans (grown_alloc _ _ none) (grown_alloc _ _ none)) (grown_alloc _ _ none)
        have hsz2 : w2.heap.size = w1.heap.size + 3 := by rw [hw2]; simp
        have HB2 := Lib.hid (show Below w.heap.size w w2 by rw [hw2]; exact ((HB.out.alloc (by omega) _).alloc (by simp; omega) _).alloc (by simp; omega) _)
        have hcc := (gcell hgr).1
        have HS := Lib.hid (show Stay w w.heap.size (w.heap.size + 1) (w.heap.size + 1 + 1) (w1.heap.size + 1 + 1) n (.slice a lg.length cap) N (.func (.func f) #[] cp) (complV w.heap.size (w.heap.size + 1) (w.heap.size + 1 + 1) (w1.heap.size + 1 + 1) (w1.heap.size + 1)) w2 from
          ⟨⟨by rw [hcc _ 0 (by omega) (by simp)]; exact x0, by rw [hcc _ 1 (by omega) (by simp)]; exact x0', by omega⟩,
           ⟨by rw [hcc _ 0 (by omega) (by simp)]; exact x1, by omega⟩,
           ⟨by rw [hcc _ 0 (by omega) (by simp)]; exact x2, by omega⟩,
           ⟨by rw [hw2]; simp [go_sem], by omega⟩, HB2.out⟩)
        have HC := Lib.hid (show CurG w (w1.heap.size + 1) w1.heap.size N [] w2 from
          ⟨by rw [hw2]; simp [go_sem], by rw [hw2]; simp [go_sem], by omega, by rw [hw2]; exact ((OwnI.made0 w1 w.heap.size N (by omega) (by have := HN7.out; unfold maxLen; omega)).alloc _).alloc _⟩)
        unfold complV at hw2
        clear hgr hsz2 hcc HB2 HG1
        go_wp2_with fail
        rw [← hw2]
        clear hw2 hmk x0 x0' x1 x2 d1 d2
        refine (complete_is f cp pat he n _ lg w HI.out HG.out N HN7.out (HRU.out N rfl HN7.out) w.heap.size (w.heap.size + 1) (w.heap.size + 1 + 1) (w1.heap.size + 1 + 1) (w1.heap.size + 1) w1.heap.size ⟨by omega, by omega, by omega, by omega, by omega⟩ ⟨by omega, by omega, by omega, by omega, by omega⟩ (by omega) N [] w2 HS.out HC.out (by simp) (fun i hi => absurd hi (by simp))).mono ?_
        rintro e w3 ⟨rfl, hS3, hC3⟩
        rw [← HQ.out] at hC3 ⊢
        have HB3 := Lib.hid hS3.2.2.2.2
        clear hS3 HS HC HQ HB HRU
        cases hF : fwpR n lg pat N with
        | some y =>
          rw [hF] at hC3
          have HC3 := Lib.hid (show CurG w (w1.heap.size + 1) w1.heap.size N y w3 from hC3)
          obtain ⟨e3, -, -, ho⟩ := HC3.out
          have HO := Lib.hid ho
          have b0 : outS (some y) = true := rfl
          have HF := Lib.hid hF
          clear ho hC3 HC3 hF
          go_wp2
          go_ret2
          exact ⟨_, by rw [HF.out]; rfl, by rw [HF.out]; exact HO.out, HB3.out⟩
        | none =>
          have b0 : outS (none : Option (List Int)) = false := rfl
          have HF := Lib.hid hF
          clear hC3 hF
          go_wp2
          go_ret2
          exact ⟨_, by rw [HF.out]; rfl, by rw [HF.out]; exact OwnI.nil0 _ _, HB3.out⟩
      · have d2 : decide (n < K) = true := decide_eq_true (by omega)
        have HN := Lib.hid (HNO.out fun h => k2 h.2.2)
        clear k1 k2
        go_wp2
        go_ret2
        exact ⟨_, by rw [HN.out.2]; rfl, by rw [HN.out.1]; exact OwnI.nil0 _ _, HB.out⟩
    · have d1 : decide (K < 1) = true := decide_eq_true (by omega)
      have HN := Lib.hid (HNO.out fun h => k1 h.2.1)
      clear k1
      go_wp2
      go_ret2
      exact ⟨_, by rw [HN.out.2]; rfl, by rw [HN.out.1]; exact OwnI.nil0 _ _, HB.out⟩

end Go.Proofs.Ytbmpljclplddeab
