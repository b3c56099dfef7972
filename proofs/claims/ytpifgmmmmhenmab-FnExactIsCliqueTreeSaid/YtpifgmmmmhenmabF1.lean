/- Families of sets that pass a test. -/
import Derived.Test.YtpifgmmmmhenmabT1
import Derived.Test.YtpifgmmmmhenmabL1
import Derived.Test.YtpifgmmmmhenmabG8
namespace Go.Proofs.Ytpifgmmmmhenmab
set_option linter.unusedVariables false
set_option linter.unusedSimpArgs false
open Go.RowKit

/-- A function value that answers by r, wherever only what is new has turned. -/
def Rule1 (f : FuncId) (cp : Array Value) (m : Nat) (r : Nat → Bool) (W0 : World) : Prop :=
  ∀ W (x : Nat), x < m → Below W0.heap.size W0 W → Calls Try.prog f (#[.int .i64 x] ++ cp) W fun e W' => e = .returned (.bool (r x)) ∧ Below W.heap.size W W'

/-- Those below k that pass. -/
def famL (r : Nat → Bool) (k : Nat) : List Int := ((List.range k).filter r).map fun x : Nat => (x : Int)

theorem famL_succ (r : Nat → Bool) (k : Nat) : famL r (k + 1) = famL r k ++ (if r k then [(k : Int)] else []) := by
  unfold famL
  rw [List.range_succ, List.filter_append, List.map_append]
  cases h : r k <;> simp [h]

theorem famL_length (r : Nat → Bool) (k : Nat) : (famL r k).length ≤ k := by
  unfold famL
  have := List.length_filter_le r (List.range k)
  simpa using this

def famR (n : Int) (l : List Int) (r : Nat → Bool) : List Int := if IsG n l then famL r (2 ^ l.length) else []

theorem famR_length (n : Int) (l : List Int) (r : Nat → Bool) : (famR n l r).length ≤ 128 := by
  unfold famR
  split
  · rename_i h
    have h1 := famL_length r (2 ^ l.length)
    have h2 := two_le l.length (by have := h.2.1; have := h.2.2.1; omega)
    omega
  · simp

theorem famR_congr (n : Int) (l : List Int) (r s : Nat → Bool) (h : ∀ x, x < 2 ^ l.length → r x = s x) : famR n l r = famR n l s := by
  unfold famR famL
  split
  · refine congrArg _ (List.filter_congr fun x hx => h x (by simpa using hx))
  · rfl

theorem full_cast {n : Int} {l : List Int} (hg : IsG n l) : (2 : Int) ^ n.toNat - 1 + 1 = ((2 ^ l.length : Nat) : Int) ∧ 2 ^ l.length ≤ 128 ∧ 0 < 2 ^ l.length ∧ (2 : Int) ^ n.toNat = ((2 ^ l.length : Nat) : Int) ∧ l.length ≤ 7 := by
  have hn : n.toNat = l.length := by have := hg.2.2.1; omega
  have h7 : l.length ≤ 7 := by have := hg.2.1; have := hg.2.2.1; omega
  have h5 : ((2 ^ l.length : Nat) : Int) = (2 : Int) ^ l.length := by push_cast; rfl
  rw [hn]
  exact ⟨by omega, two_le _ h7, Nat.pow_pos (by decide), by omega, h7⟩

set_option maxHeartbeats 2000000 in
set_option maxRecDepth 100000 in
theorem sets_any (f : FuncId) (cp : Array Value) (r : Nat → Bool) (n : Int) (v : Value) (l : List Int) (w : World) (h : Ints w v l) (he : Enters f) (hr : IsG n l → Rule1 f cp (2 ^ l.length) r w) :
    Calls Try.prog 88 #[.agg #[.int .i64 n, v, .func (.func f) #[] cp]] w (GetsI w.heap.size w (famR n l r)) := by
  obtain ⟨a, cap, rfl, -, -⟩ := h.form
  obtain ⟨i0, hi, hi0, hi1, hi2⟩ := info_parts infoInt
  have HA : Hid (∀ wr, Below (w.heap.size + 1) (w.alloc (.cells #[.int .i64 n, .slice a l.length cap, .func (.func f) #[] cp] 91)) wr → wr.cell? ⟨w.heap.size, 0, none⟩ = some (.int .i64 n) ∧ wr.cell? ⟨w.heap.size, 1, none⟩ = some (.slice a l.length cap) ∧ wr.cell? ⟨w.heap.size, 2, none⟩ = some (.func (.func f) #[] cp) ∧ Ints wr (.slice a l.length cap) l ∧ Below w.heap.size w wr ∧ w.heap.size < wr.heap.size) := fun wr hb => by
    have hz := hb.size
    simp at hz
    refine ⟨by rw [hb.cell (p := ⟨w.heap.size, 0, none⟩) (by simp)]; simp [go_sem], by rw [hb.cell (p := ⟨w.heap.size, 1, none⟩) (by simp)]; simp [go_sem], by rw [hb.cell (p := ⟨w.heap.size, 2, none⟩) (by simp)]; simp [go_sem], (h.alloc _).below hb (by simp), ((Below.refl _ w).alloc (Nat.le_refl _) _).trans (hb.mono (by omega)), by omega⟩
  have HRU := Lib.hid hr
  have HI := Lib.hid h
  clear h hr
  unfold Enters at he
  go_enter Try.func88, Try.ntmps88
  go_wp2_with fail
  refine (implIsG_any n _ l _ (HI.out.alloc _)).mono ?_
  rintro e w1 ⟨q, rfl, hq, hb⟩
  have HB := Lib.hid (hb.mono (B' := w.heap.size + 1) (by simp))
  have HR := Lib.hid hq
  clear hb hq
  obtain ⟨c0, c1, c2, cI, cB, hz⟩ := HA.out _ HB.out
  have HCI := Lib.hid cI
  have HCB := Lib.hid cB
  clear cI cB
  cases q with
  | false =>
    have HN := Lib.hid (show famR n l r = [] by unfold famR; rw [if_neg (fun h => absurd (HR.out.2 h) (by decide))])
    go_wp2
    go_ret
    exact ⟨_, rfl, by rw [HN.out]; exact OwnI.nil0 _ _, HCB.out⟩
  | true =>
    have HG := Lib.hid (HR.out.1 rfl)
    have HN := Lib.hid (show famR n l r = famL r (2 ^ l.length) by unfold famR; rw [if_pos HG.out])
    obtain ⟨F, hF⟩ : ∃ F, F = 2 ^ l.length := ⟨_, rfl⟩
    obtain ⟨M, hM⟩ : ∃ M : Int, M = 2 ^ n.toNat - 1 := ⟨_, rfl⟩
    have hf1 : M + 1 = (F : Int) := by rw [hM, hF]; exact (full_cast HG.out).1
    have hf2 : F ≤ 128 := by rw [hF]; exact (full_cast HG.out).2.1
    have HRU2 := Lib.hid (HRU.out HG.out)
    rw [← hF] at HN HRU2
    have HM := Lib.hid hM
    clear hF hM
    go_wp2_with fail
    refine (allVertices_is n _ l _ HCI.out HG.out.1 HG.out.2.1).mono ?_
    rintro e w2 ⟨rfl, hb⟩
    rw [← HM.out]
    have HB2 := Lib.hid (HB.out.trans (hb.mono hz))
    clear hb c0 c1 c2 hz HCI HCB
    go_wp2
    clear hf1
    go_loopw [3, 13] (fun s i wr => ∃ k : Nat, k ≤ F ∧ i = .int .i64 k ∧ OwnI (w.heap.size + 1) wr s (famL r k) ∧ Below (w.heap.size + 1) (w.alloc (.cells #[.int .i64 n, .slice a l.length cap, .func (.func f) #[] cp] 91)) wr) (fun _ i _ => F - (intOf i).toNat)
    case atStart => exact ⟨0, by omega, rfl, OwnI.nil0 _ _, HB2.out⟩
    case round =>
      obtain ⟨k, hk, rfl, ho, hbel⟩ := hrel
      obtain ⟨c0, c1, c2, cI, cB, hz⟩ := HA.out _ hbel
      have HO := Lib.hid ho
      have HBL := Lib.hid hbel
      have HCB := Lib.hid cB
      clear ho hbel cI cB
      by_cases hlt : k < F
      · have HS := Lib.hid (famL_succ r k)
        have HL := Lib.hid (famL_length r k)
        go_wp2_with fail
        refine (HRU2.out _ k hlt HCB.out).mono ?_
        rintro e w3 ⟨rfl, hb⟩
        have HO3 := Lib.hid (HO.out.on hb)
        have HB3 := Lib.hid (HBL.out.trans (hb.mono hz))
        clear hb c0 c1 c2 hz
        obtain ⟨-, -, -, -, -, hz⟩ := HA.out _ HB3.out
        cases hrk : r k with
        | false =>
          have HT := Lib.hid (show famL r (k + 1) = famL r k by rw [HS.out, hrk]; simp)
          clear hrk
          go_wp2
          go_roundw
          case rel => exact ⟨k + 1, by omega, by go_num, by rw [HT.out]; exact HO3.out, HB3.out⟩
          case measure => simp [intOf]; omega
        | true =>
          have HT := Lib.hid (show famL r (k + 1) = famL r k ++ [(k : Int)] by rw [HS.out, hrk]; simp)
          clear hrk
          go_wp2_with (at_builtin; refine wpList_append_int rfl (.tmp 20) (.tmp 22) 22 rfl (w.heap.size + 1) i0 Try.underlying22 hi hi0 hi1 hi2 _ _ rfl HO3.out (k : Int) (by omega) (by omega) rfl (by have := HL.out; omega) hz ?_)
          intro v' w4 ho4 hg4 hv4
          have HO4 := Lib.hid ho4
          have HB4 := Lib.hid ((HB3.out.alloc hz (.cells #[.int .i64 (k : Int)] 3)).grown hg4 (by simp; omega) (fun k hk => (HO3.out.lt k hk).1))
          clear ho4 hg4
          go_wp2
          go_roundw
          case rel => exact ⟨k + 1, by omega, by go_num, by rw [HT.out]; exact HO4.out, HB4.out⟩
          case measure => simp [intOf]; omega
      · obtain rfl : k = F := by omega
        go_wp2
        go_ret
        exact ⟨_, rfl, by rw [HN.out]; exact HO.out.mono (by omega), HCB.out⟩

end Go.Proofs.Ytpifgmmmmhenmab
