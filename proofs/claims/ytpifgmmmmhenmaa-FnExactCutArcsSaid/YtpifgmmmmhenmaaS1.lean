/- Slices of slices of ints in walks: rows of the call's own that hold rows of its own. -/
import Derived.Test.YtpifgmmmmhenmaaGl
import Derived.StillTailTactics
namespace Go.Proofs.Ytpifgmmmmhenmaa
set_option linter.unusedVariables false
set_option linter.unusedSimpArgs false
open Go.RowKit

/-- Only blocks from lo to hi may have turned. -/
structure Only (lo hi : Nat) (w w' : World) : Prop where
  os : w'.os = w.os
  tape : w'.tape = w.tape
  output : w'.output = w.output
  size : w.heap.size ≤ w'.heap.size
  block : ∀ k, k < w.heap.size → (k < lo ∨ hi ≤ k) → w'.heap[k]? = w.heap[k]?

theorem Only.refl (lo hi : Nat) (w : World) : Only lo hi w w := ⟨rfl, rfl, rfl, Nat.le_refl _, fun _ _ _ => rfl⟩

theorem Only.trans {lo hi : Nat} {a b c : World} (h : Only lo hi a b) (k : Only lo hi b c) : Only lo hi a c :=
  ⟨k.os.trans h.os, k.tape.trans h.tape, k.output.trans h.output, Nat.le_trans h.size k.size, fun i hi' hr => (k.block i (Nat.lt_of_lt_of_le hi' h.size) hr).trans (h.block i hi' hr)⟩

theorem Only.of_below {w w' : World} (lo hi : Nat) (h : Below w.heap.size w w') : Only lo hi w w' := ⟨h.os, h.tape, h.output, h.size, fun k hk _ => h.block k hk⟩

theorem Only.of_grown {lo hi : Nat} {w w' : World} {row : Option Nat} (h : w.grownBy w' row) (hr : ∀ k, row = some k → lo ≤ k ∧ k < hi) : Only lo hi w w' :=
  ⟨h.os, h.tape, h.output, h.size, fun k hk hk' => h.block k hk fun e => by have := hr k e.symm; omega⟩

theorem Only.below {lo hi B : Nat} {w w' : World} (h : Only lo hi w w') (hB : B ≤ lo) (hw : B ≤ w.heap.size) : Below B w w' := ⟨h.os, h.tape, h.output, h.size, fun k hk => h.block k (by omega) (.inl (by omega))⟩

theorem Below.only {B lo hi : Nat} {w0 w w' : World} (h : Below B w0 w) (k : Only lo hi w w') (hB : B ≤ lo) (hw : B ≤ w0.heap.size) : Below B w0 w' := h.trans (k.below hB (Nat.le_trans hw h.size))

theorem BoxG.keepO {q : Nat} {n : Int} {v : Value} {w w' : World} {lo hi : Nat} (h : BoxG q n v w) (hg : Only lo hi w w') (hr : q < lo ∨ hi ≤ q) : BoxG q n v w' := by
  have hb := hg.block q h.2.2 hr
  exact ⟨(World.cell?_of_block (a := ⟨q, 0, none⟩) hb).trans h.1, (World.cell?_of_block (a := ⟨q, 1, none⟩) hb).trans h.2.1, Nat.lt_of_lt_of_le h.2.2 hg.size⟩

theorem ownsRow_block {w w' : World} {B size n : Nat} {e : TypeId} {v : Value} {xs : List Value} (h : w.ownsRow B e size v n xs) (hb : ∀ k, v.ownBlock = some k → w'.heap[k]? = w.heap[k]?) : w'.ownsRow B e size v n xs := by
  refine ⟨h.1, ?_⟩
  rcases h.2 with h' | ⟨g, cap, cur, rfl, hB, hk, h2⟩
  · exact .inl h'
  · exact .inr ⟨g, cap, cur, rfl, hB, by rw [hb g rfl]; exact hk, h2⟩

theorem OwnI.block {w w' : World} {B : Nat} {v : Value} {l : List Int} (h : OwnI B w v l) (hb : ∀ k, v.ownBlock = some k → w'.heap[k]? = w.heap[k]?) : OwnI B w' v l := ⟨h.1, ownsRow_block h.2 hb⟩

def elt (vs : List Value) (i : Nat) : Value := vs.getD i undef

def subL (ll : List (List Int)) (i : Nat) : List Int := ll.getD i []

/-- A slice of the call's own whose elements are slices of its own, all blocks from lo to hi. -/
def OwnV (lo hi : Nat) (w : World) (v : Value) (vs : List Value) (ll : List (List Int)) : Prop :=
  vs.length = ll.length ∧ w.ownsRow lo 27 1 v ll.length vs ∧ (∀ i, i < ll.length → OwnI lo w (elt vs i) (subL ll i)) ∧
    (∀ i k, i < ll.length → (elt vs i).ownBlock = some k → k < hi) ∧ (∀ k, v.ownBlock = some k → k < hi) ∧
    (∀ i j k, i < ll.length → j < ll.length → (elt vs i).ownBlock = some k → (elt vs j).ownBlock = some k → i = j)

def OwnII (lo hi : Nat) (w : World) (v : Value) (ll : List (List Int)) : Prop := ∃ vs, OwnV lo hi w v vs ll

theorem OwnV.keep {lo hi a b : Nat} {w w' : World} {v : Value} {vs : List Value} {ll : List (List Int)} (h : OwnV lo hi w v vs ll) (hg : Only a b w w') (hr : hi ≤ a ∨ b ≤ lo) : OwnV lo hi w' v vs ll := by
  obtain ⟨h1, h2, h3, h4, h5, h6⟩ := h
  refine ⟨h1, ownsRow_block h2 fun k hk => ?_, fun i hi' => (h3 i hi').block fun k hk => ?_, h4, h5, h6⟩
  · have := h2.lt k hk
    have := h5 k hk
    exact hg.block k (by omega) (by omega)
  · have := (h3 i hi').lt k hk
    have := h4 i k hi' hk
    exact hg.block k (by omega) (by omega)

theorem OwnII.keep {lo hi a b : Nat} {w w' : World} {v : Value} {ll : List (List Int)} (h : OwnII lo hi w v ll) (hg : Only a b w w') (hr : hi ≤ a ∨ b ≤ lo) : OwnII lo hi w' v ll := by
  obtain ⟨vs, h⟩ := h
  exact ⟨vs, h.keep hg hr⟩

theorem OwnII.keepB {lo hi : Nat} {w w' : World} {v : Value} {ll : List (List Int)} (h : OwnII lo hi w v ll) (hb : Below w.heap.size w w') : OwnII lo hi w' v ll := h.keep (Only.of_below 0 0 hb) (.inr (Nat.zero_le _))

theorem OwnII.keepG {lo hi : Nat} {w w' : World} {v : Value} {ll : List (List Int)} {row : Option Nat} (h : OwnII lo hi w v ll) (hg : w.grownBy w' row) (hr : ∀ k, row = some k → k < lo ∨ hi ≤ k) : OwnII lo hi w' v ll := by
  cases row with
  | none => exact h.keepB ⟨hg.os, hg.tape, hg.output, hg.size, fun k hk => hg.block k hk (by simp)⟩
  | some r =>
    have := hr r rfl
    exact h.keep (Only.of_grown (lo := r) (hi := r + 1) hg fun k e => by have := Option.some.inj e; omega) (by omega)

theorem inner_ne {lo lo' n : Nat} {w : World} {u v : Value} {l : List Int} {vs : List Value} (h : OwnI lo w u l) (ho : w.ownsRow lo' 27 1 v n vs) : ∀ k, u.ownBlock = some k → v.ownBlock ≠ some k := by
  intro k hk hk'
  rcases h.2.2 with ⟨rfl, _⟩ | ⟨g, cap, cur, rfl, _, h1, _⟩
  · simp [Value.ownBlock] at hk
  · rcases ho.2 with ⟨rfl, _⟩ | ⟨g', cap', cur', rfl, _, h2, _⟩
    · simp [Value.ownBlock] at hk'
    · obtain rfl : g = k := by simpa [Value.ownBlock] using hk
      obtain rfl : g' = g := by simpa [Value.ownBlock] using hk'
      rw [h1] at h2
      simp at h2

theorem subL_set (ll : List (List Int)) (i j : Nat) (l : List Int) (h : i < ll.length) : subL (ll.set i l) j = if j = i then l else subL ll j := by
  simp only [subL, List.getD, List.getElem?_set]
  by_cases e : j = i
  · subst e; simp [h]
  · have e' : ¬ i = j := fun h => e h.symm
    simp [e, e']

theorem OwnV.set {lo hi i : Nat} {w w' : World} {v : Value} {vs : List Value} {ll : List (List Int)} {l : List Int} (h : OwnV lo hi w v vs ll) (hlt : i < ll.length) (hg : w.grownBy w' (elt vs i).ownBlock) (hn : OwnI lo w' (elt vs i) l) :
    OwnV lo hi w' v vs (ll.set i l) ∧ Only lo hi w w' := by
  obtain ⟨h1, h2, h3, h4, h5, h6⟩ := h
  refine ⟨⟨by simpa using h1, ?_, fun j hj => ?_, fun j k hj => h4 j k (by simpa using hj), h5, fun a b k ha hb => h6 a b k (by simpa using ha) (by simpa using hb)⟩, Only.of_grown hg fun k hk => ⟨((h3 i hlt).lt k hk).1, h4 i k hlt hk⟩⟩
  · rw [List.length_set]
    refine h2.kept hg ?_
    cases hv : v.ownBlock with
    | none => exact .inl rfl
    | some k => exact .inr fun e => inner_ne (h3 i hlt) h2 k e.symm hv
  · rw [List.length_set] at hj
    rw [subL_set ll i j l hlt]
    by_cases e : j = i
    · subst e; rw [if_pos rfl]; exact hn
    · rw [if_neg e]
      refine (h3 j hj).block fun k hk => hg.block k ((h3 j hj).lt k hk).2 fun e' => ?_
      exact e (h6 j i k hj hlt hk e'.symm)

theorem OwnV.form {lo hi : Nat} {w : World} {v : Value} {vs : List Value} {ll : List (List Int)} (h : OwnV lo hi w v vs ll) : (v = .slice none 0 0 ∧ ll = []) ∨ ∃ g cap, v = .slice (some ⟨g, 0, none⟩) ll.length cap ∧ g < w.heap.size ∧ ll.length ≤ cap ∧ cap ≤ maxLen ∧
    (∀ j, j < ll.length → w.cell? ⟨g, j, none⟩ = some (elt vs j)) := by
  obtain ⟨h1, h2, -⟩ := h
  rcases h2.2 with ⟨hv, hn⟩ | ⟨g, cap, cur, hv, hg, hk, hl, hm, hs, ht⟩
  · exact .inl ⟨hv, List.eq_nil_of_length_eq_zero hn⟩
  · subst hv
    have hlt := h2.lt g rfl
    refine .inr ⟨g, cap, rfl, hlt.2, hl, hm, fun j hj => ?_⟩
    have := h2.cellAt j (by omega)
    rw [this]
    simp [elt, List.getD, List.getElem?_eq_getElem (show j < vs.length by omega)]

theorem OwnV.nil (lo hi : Nat) (w : World) : OwnV lo hi w (.slice none 0 0) [] [] := ⟨rfl, ⟨rfl, .inl ⟨rfl, rfl⟩⟩, fun i h => by simp at h, fun i k h => by simp at h, fun k h => by simp [Value.ownBlock] at h, fun i j k h => by simp at h⟩

def tot : List (List Int) → Nat
  | [] => 0
  | l :: t => l.length + tot t

theorem tot_take_succ (ll : List (List Int)) (j : Nat) (h : j < ll.length) : tot (ll.take (j + 1)) = tot (ll.take j) + (subL ll j).length := by
  induction ll generalizing j with
  | nil => simp at h
  | cons l t ih =>
    cases j with
    | zero => simp [tot, subL]
    | succ j =>
      have := ih j (by simpa using h)
      simp only [List.take_succ_cons, tot]
      rw [this]
      simp [subL]
      omega

theorem tot_take_le (ll : List (List Int)) (j : Nat) : tot (ll.take j) ≤ tot ll := by
  induction ll generalizing j with
  | nil => simp
  | cons l t ih =>
    cases j with
    | zero => simp [tot]
    | succ j =>
      have := ih j
      simp only [List.take_succ_cons, tot]
      omega

theorem sub_le_tot (ll : List (List Int)) (j : Nat) (h : j < ll.length) : tot (ll.take j) + (subL ll j).length ≤ tot ll := by
  rw [← tot_take_succ ll j h]
  exact tot_take_le ll _

/-- M is ll, marked from k on. -/
def Marked (k : Int) (ll M : List (List Int)) : Prop := M.length = ll.length ∧ ∀ j, j < ll.length → subL M j = marks (k + tot (ll.take j)) (subL ll j).length

set_option maxHeartbeats 1000000 in
set_option maxRecDepth 100000 in
theorem eqIntSS_same (lo hi lo' hi' : Nat) (v u : Value) (ll : List (List Int)) (w : World) (h : OwnII lo hi w v ll) (h' : OwnII lo' hi' w u ll) (hl : ll.length ≤ 1000000) (ht : tot ll ≤ 1000000) :
    Calls Try.prog 46 #[v, u] w fun e w' => e = .returned (.bool true) ∧ Below w.heap.size w w' := by
  obtain ⟨vs, h⟩ := h
  obtain ⟨us, h'⟩ := h'
  have HV := Lib.hid h
  have HU := Lib.hid h'
  have HT := Lib.hid (sub_le_tot ll)
  have hnil : ∀ (lo hi : Nat) (v : Value) (vs : List Value), OwnV lo hi w v vs ll → ∃ a cap, v = .slice a ll.length cap ∧ cap ≤ maxLen := fun lo hi v vs h => by
    rcases h.form with ⟨rfl, rfl⟩ | ⟨g, cap, rfl, -, -, hm, -⟩
    · exact ⟨none, 0, rfl, by unfold maxLen; omega⟩
    · exact ⟨_, cap, rfl, hm⟩
  obtain ⟨a1, cap1, rfl, hm1⟩ := hnil _ _ _ _ h
  obtain ⟨a2, cap2, rfl, hm2⟩ := hnil _ _ _ _ h'
  unfold maxLen at hm1 hm2
  clear h h' hnil
  go_enter Try.func46, Try.ntmps46
  go_wp2
  go_loopw [5] (fun i wr => ∃ j : Nat, j ≤ ll.length ∧ i = .int .i64 j ∧ Below w.heap.size w wr) (fun i _ => ll.length - (intOf i).toNat)
  case atStart => exact ⟨0, by omega, rfl, Below.refl _ _⟩
  case round =>
    obtain ⟨j, hj, rfl, hbel⟩ := hrel
    by_cases hlt : j < ll.length
    · have HBL := Lib.hid hbel
      rcases HV.out.form with ⟨-, hn⟩ | ⟨g, cap, hv, hg, -, -, hcell⟩
      · rw [hn] at hlt; simp at hlt
      rcases HU.out.form with ⟨-, hn⟩ | ⟨g', cap', hv', hg', -, -, hcell'⟩
      · rw [hn] at hlt; simp at hlt
      simp only [Value.slice.injEq] at hv hv'
      obtain ⟨rfl, -, rfl⟩ := hv
      obtain ⟨rfl, -, rfl⟩ := hv'
      have c1 : wr.cell? ⟨g, j, none⟩ = some (elt vs j) := (hbel.cell (p := ⟨g, j, none⟩) hg).trans (hcell j hlt)
      have c2 : wr.cell? ⟨g', j, none⟩ = some (elt us j) := (hbel.cell (p := ⟨g', j, none⟩) hg').trans (hcell' j hlt)
      have HI1 := Lib.hid ((HV.out.2.2.1 j hlt).on hbel).ints
      have HI2 := Lib.hid ((HU.out.2.2.1 j hlt).on hbel).ints
      obtain ⟨x1, hx1⟩ : ∃ x, x = elt vs j := ⟨_, rfl⟩
      obtain ⟨x2, hx2⟩ : ∃ x, x = elt us j := ⟨_, rfl⟩
      rw [← hx1] at c1 HI1
      rw [← hx2] at c2 HI2
      clear hcell hcell' hbel hx1 hx2
      go_wp2
      go_still_tail 8, (by kernel_rfl)
      change wpList _ _ _ _ _ wr.drew
      go_wp2_with fail
      refine (eqIntS_same _ _ (subL ll j) _ (HI1.out.on (Below.refl _ _).drew) (HI2.out.on (Below.refl _ _).drew) (by have := HT.out j hlt; omega)).mono ?_
      rintro e w1 ⟨rfl, hb⟩
      have HB1 := Lib.hid (HBL.out.drew.trans (hb.mono HBL.out.size))
      clear hb c1 c2
      go_wp2
      go_roundw
      case rel => exact ⟨j + 1, by omega, by go_num, HB1.out⟩
      case measure => simp [intOf]; omega
    · obtain rfl : j = ll.length := by omega
      go_wp2
      go_ret
      exact ⟨rfl, hbel⟩

set_option maxHeartbeats 1000000 in
set_option maxRecDepth 100000 in
theorem markIntSS_any (lo hi : Nat) (v : Value) (ll : List (List Int)) (k : Int) (w : World) (h : OwnII lo hi w v ll) (hl : ll.length ≤ 1000000) (ht : tot ll ≤ 1000000) (k0 : 0 ≤ k) (k1 : k ≤ 1000000) :
    Calls Try.prog 86 #[v, .int .i64 k] w fun e w' => e = .returned (.int .i64 (k + tot ll)) ∧ (∃ M, Marked k ll M ∧ OwnII lo hi w' v M) ∧ Only lo hi w w' := by
  obtain ⟨vs, h⟩ := h
  have HT := Lib.hid (sub_le_tot ll)
  have HTS := Lib.hid (tot_take_succ ll)
  obtain ⟨a1, cap1, rfl, hm1⟩ : ∃ a cap, v = .slice a ll.length cap ∧ cap ≤ maxLen := by
    rcases h.form with ⟨rfl, rfl⟩ | ⟨g, cap, rfl, -, -, hm, -⟩
    · exact ⟨none, 0, rfl, by unfold maxLen; omega⟩
    · exact ⟨_, cap, rfl, hm⟩
  have HV := Lib.hid h
  unfold maxLen at hm1
  clear h
  go_enter Try.func86, Try.ntmps86
  go_wp2
  go_loopw [1, 5] (fun x i wr => ∃ (j t : Nat) (M : List (List Int)), j ≤ ll.length ∧ i = .int .i64 j ∧ x = .int .i64 (k + t) ∧ t ≤ 1000000 ∧ Hid (t = tot (ll.take j) ∧ M.length = ll.length ∧ (∀ q, q < ll.length → subL M q = if q < j then marks (k + tot (ll.take q)) (subL ll q).length else subL ll q) ∧ OwnV lo hi wr (.slice a1 ll.length cap1) vs M ∧ Only lo hi w wr)) (fun _ i _ => ll.length - (intOf i).toNat)
  case atStart => exact ⟨0, 0, ll, by omega, rfl, by simp, by omega, rfl, rfl, fun q _ => by simp, HV.out, Only.refl _ _ _⟩
  case round =>
    obtain ⟨j, t, M, hj, rfl, rfl, ht6, HH⟩ := hrel
    by_cases hlt : j < ll.length
    · have hM := HH.out.2.1
      rcases HH.out.2.2.2.1.form with ⟨-, hn⟩ | ⟨g, cap, hv, hg, -, -, hcell⟩
      · rw [hn] at hM; simp at hM; omega
      simp only [Value.slice.injEq] at hv
      obtain ⟨rfl, -, rfl⟩ := hv
      have c1 := hcell j (by omega)
      have hO := HH.out.2.2.2.1.2.2.1 j (by omega)
      rw [HH.out.2.2.1 j hlt, if_neg (by omega)] at hO
      have HO := Lib.hid hO
      have hq := HT.out j hlt
      rw [← HH.out.1] at hq
      obtain ⟨x1, hx1⟩ : ∃ x, x = elt vs j := ⟨_, rfl⟩
      have HX := Lib.hid hx1
      rw [← hx1] at c1 HO
      clear hcell hO hM hx1
      go_wp2_with fail
      refine (markIntS_any lo _ (subL ll j) (k + t) _ HO.out (by omega) (by omega) (by omega)).mono ?_
      rintro e w1 ⟨rfl, ho, hg⟩
      have hs := OwnV.set (i := j) HH.out.2.2.2.1 (by rw [HH.out.2.1]; exact hlt) (by rw [← HX.out]; exact hg) (by rw [← HX.out]; exact ho)
      have HS := Lib.hid hs
      have HT1 := Lib.hid (HTS.out j hlt)
      clear ho hg hs c1
      go_wp2
      go_roundw
      case rel =>
        refine ⟨j + 1, t + (subL ll j).length, M.set j (marks (k + t) (subL ll j).length), by omega, by go_num, by go_num, by omega, by rw [HT1.out, HH.out.1], by rw [List.length_set]; exact HH.out.2.1, fun q hq' => ?_, HS.out.1, HH.out.2.2.2.2.trans HS.out.2⟩
        rw [subL_set M j q _ (by rw [HH.out.2.1]; exact hlt)]
        by_cases e : q = j
        · subst e; rw [if_pos rfl, if_pos (by omega), ← HH.out.1]
        · rw [if_neg e, HH.out.2.2.1 q hq']
          by_cases e2 : q < j
          · rw [if_pos e2, if_pos (by omega)]
          · rw [if_neg e2, if_neg (by omega)]
      case measure => simp [intOf]; omega
    · obtain rfl : j = ll.length := by omega
      have HE := Lib.hid (show t = tot ll by rw [HH.out.1, List.take_length])
      go_wp2
      go_ret
      refine ⟨by rw [← HE.out]; rfl, ⟨M, ⟨HH.out.2.1, fun q hq => ?_⟩, vs, HH.out.2.2.2.1⟩, HH.out.2.2.2.2⟩
      rw [HH.out.2.2.1 q hq, if_pos hq]

set_option maxHeartbeats 1000000 in
set_option maxRecDepth 100000 in
theorem heldIntSS_any (lo hi : Nat) (v : Value) (ll M : List (List Int)) (k : Int) (w : World) (h : OwnII lo hi w v M) (hM : Marked k ll M) (hl : ll.length ≤ 1000000) (ht : tot ll ≤ 1000000) (k0 : 0 ≤ k) (k1 : k ≤ 1000000) :
    Calls Try.prog 87 #[v, .int .i64 k] w fun e w' => e = .returned (.int .i64 (k + tot ll)) ∧ Below w.heap.size w w' := by
  obtain ⟨vs, h⟩ := h
  have HT := Lib.hid (sub_le_tot ll)
  have HTS := Lib.hid (tot_take_succ ll)
  have HM := Lib.hid hM
  obtain ⟨a1, cap1, rfl, hm1⟩ : ∃ a cap, v = .slice a ll.length cap ∧ cap ≤ maxLen := by
    rw [← hM.1]
    rcases h.form with ⟨rfl, rfl⟩ | ⟨g, cap, rfl, -, -, hm, -⟩
    · exact ⟨none, 0, rfl, by unfold maxLen; omega⟩
    · exact ⟨_, cap, rfl, hm⟩
  have HV := Lib.hid h
  unfold maxLen at hm1
  clear h hM
  go_enter Try.func87, Try.ntmps87
  go_wp2
  go_loopw [1, 5] (fun x i wr => ∃ (j t : Nat), j ≤ ll.length ∧ i = .int .i64 j ∧ x = .int .i64 (k + t) ∧ t ≤ 1000000 ∧ Hid (t = tot (ll.take j)) ∧ Below w.heap.size w wr) (fun _ i _ => ll.length - (intOf i).toNat)
  case atStart => exact ⟨0, 0, by omega, rfl, by simp, by omega, rfl, Below.refl _ _⟩
  case round =>
    obtain ⟨j, t, hj, rfl, rfl, ht6, HH, hbel⟩ := hrel
    by_cases hlt : j < ll.length
    · rcases HV.out.form with ⟨-, hn⟩ | ⟨g, cap, hv, hg, -, -, hcell⟩
      · have := HM.out.1; rw [hn] at this; simp at this; omega
      simp only [Value.slice.injEq] at hv
      obtain ⟨rfl, -, rfl⟩ := hv
      have c1 : wr.cell? ⟨g, j, none⟩ = some (elt vs j) := (hbel.cell (p := ⟨g, j, none⟩) hg).trans (hcell j (by rw [HM.out.1]; exact hlt))
      have hO := ((HV.out.2.2.1 j (by rw [HM.out.1]; exact hlt)).on hbel).ints
      rw [HM.out.2 j hlt, ← HH.out] at hO
      have HO := Lib.hid hO
      have HBL := Lib.hid hbel
      have hq := HT.out j hlt
      rw [← HH.out] at hq
      have HT1 := Lib.hid (HTS.out j hlt)
      obtain ⟨x1, hx1⟩ : ∃ x, x = elt vs j := ⟨_, rfl⟩
      rw [← hx1] at c1 HO
      have d0 : decide (k + (t : Int) + (subL ll j).length < 0) = false := by simp; omega
      clear hcell hO hx1 hbel
      go_wp2_with fail
      refine (heldIntS_any _ (k + t) (subL ll j).length _ HO.out (by omega) (by omega) (by omega)).mono ?_
      rintro e w1 ⟨rfl, rfl⟩
      go_wp2
      go_roundw
      case rel => exact ⟨j + 1, t + (subL ll j).length, by omega, by go_num, by go_num, by omega, by rw [HT1.out, HH.out]; rfl, HBL.out⟩
      case measure => simp [intOf]; omega
    · obtain rfl : j = ll.length := by omega
      have HE := Lib.hid (show t = tot ll by rw [HH.out, List.take_length])
      go_wp2
      go_ret
      exact ⟨by rw [← HE.out]; rfl, hbel⟩

end Go.Proofs.Ytpifgmmmmhenmaa
