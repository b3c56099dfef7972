/- Orders that are found vertex by vertex: plain facts. -/
import Derived.Test.YtcpchdnhhjhpaaaJ1
import Derived.Test.YtcpchdnhhjhpaaaJ2
import Derived.Test.YtcpchdnhhjhpaaaM13
namespace Go.Proofs.Ytcpchdnhhjhpaaa
set_option linter.unusedVariables false
set_option linter.unusedSimpArgs false
open Go.RowKit

theorem srch_inv (m : Nat) (fit fit' : List Int → Nat → Bool) (T : List Int → Bool) (P : List Int → Prop) (h : ∀ L u, P L → u < m → fit L u = fit' L u) (hp : ∀ L u, P L → u < m → fit L u = true → P (L ++ [(u : Int)])) :
    ∀ (k : Nat) (L : List Int), P L → srchS m fit T k L = srchS m fit' T k L
  | 0, _, _ => rfl
  | k + 1, L, hL => by
    unfold srchS
    refine firstS_congr fun u hu => ?_
    rw [← h L u hL hu]
    cases hf : fit L u with
    | true => rw [if_pos rfl, if_pos rfl]; exact srch_inv m fit fit' T P h hp k _ (hp L u hL hu hf)
    | false => rfl

/-- A list of vertices. -/
def Verts (lg L : List Int) : Prop := ∀ i, i < L.length → nth L i = (kl L i : Int) ∧ kl L i < lg.length

theorem Verts.nil (lg : List Int) : Verts lg [] := fun i hi => absurd hi (by simp)

theorem Verts.snoc {lg L : List Int} (h : Verts lg L) {u : Nat} (hu : u < lg.length) : Verts lg (L ++ [(u : Int)]) := fun i hi => by
  simp at hi
  rcases Nat.lt_or_ge i L.length with h' | h'
  · rw [nth_append_lt _ _ _ h', nth_snoc_lt _ _ _ h']; exact h i h'
  · obtain rfl : i = L.length := by omega
    rw [nth_append_len, kl_snoc]; exact ⟨rfl, hu⟩

instance (lg l : List Int) (v : Nat) : Decidable (StayL lg l v) :=
  decidable_of_iff (∀ i, i < l.length → edB lg v (kl l i) = true → ∀ j, j < l.length → i < j → edB lg v (kl l j) = true ∧ edB lg (kl l i) (kl l j) = true)
    ⟨fun h i hi he j hij hj => h i hi he j hj hij, fun h i hi he j hj hij => h i hi he j hij hj⟩

/-- What the program asks of u behind L. -/
def fitU (lg L : List Int) (u : Nat) : Bool := !decide ((u : Int) ∈ L) && decide (StayL lg L u)

/-- What the specification asks. -/
def fitV (lg L : List Int) (u : Nat) : Bool := !decide ((u : Int) ∈ L) && decide (UmbP lg (L ++ [(u : Int)]))

theorem umb_stay' {n : Int} {lg l : List Int} (hg : IsG n lg) (hk : ∀ i, i < l.length → kl l i < lg.length) : UmbP lg l ↔ ∀ k, k < l.length → StayP lg l k := by
  refine ⟨fun hu k hkl i hi he j hij hjk => ?_, fun hs k hkl j hj i hij he => ?_⟩
  · have := hu k hkl j hjk i hij (by rw [edB_sym hg (hk i (by omega)) (hk k hkl)]; exact he)
    exact ⟨by rw [edB_sym hg (hk k hkl) (hk j (by omega))]; exact this.2, this.1⟩
  · have := hs k hkl i (by omega) (by rw [edB_sym hg (hk k hkl) (hk i (by omega))]; exact he) j hij hj
    exact ⟨this.2, by rw [edB_sym hg (hk j (by omega)) (hk k hkl)]; exact this.1⟩

theorem stay_snoc_lt {lg L : List Int} {u k : Nat} (hk : k < L.length) : StayP lg (L ++ [(u : Int)]) k ↔ StayP lg L k := by
  unfold StayP
  rw [nth_snoc_lt _ _ _ hk]
  refine ⟨fun h i hi he j hij hj => ?_, fun h i hi he j hij hj => ?_⟩
  · have := h i hi (by rw [nth_snoc_lt _ _ _ (by omega)]; exact he) j hij hj
    rwa [nth_snoc_lt _ _ _ (by omega), nth_snoc_lt _ _ _ (by omega)] at this
  · rw [nth_snoc_lt _ _ _ (by omega)] at he ⊢
    rw [nth_snoc_lt _ _ _ (by omega)]
    exact h i hi he j hij hj

theorem stay_snoc_last {lg L : List Int} {u : Nat} : StayP lg (L ++ [(u : Int)]) L.length ↔ StayL lg L u := by
  unfold StayP StayL
  rw [kl_snoc]
  refine ⟨fun h i hi he j hij hj => ?_, fun h i hi he j hij hj => ?_⟩
  · have := h i hi (by rw [nth_snoc_lt _ _ _ hi]; exact he) j hij hj
    rwa [nth_snoc_lt L _ j hj, nth_snoc_lt L _ i hi] at this
  · rw [nth_snoc_lt _ _ _ hi] at he ⊢
    rw [nth_snoc_lt _ _ _ hj]
    exact h i hi he j hij hj

theorem fit_same {n : Int} {lg L : List Int} (hg : IsG n lg) (hV : Verts lg L) (hU : UmbP lg L) {u : Nat} (hu : u < lg.length) : StayL lg L u ↔ UmbP lg (L ++ [(u : Int)]) := by
  have h0 := (umb_stay' hg (fun i hi => (hV i hi).2)).1 hU
  rw [umb_stay' hg (fun i hi => ((hV.snoc hu) i hi).2)]
  refine ⟨fun h k hk => ?_, fun h => stay_snoc_last.1 (h L.length (by simp))⟩
  simp at hk
  rcases Nat.lt_or_ge k L.length with h' | h'
  · exact (stay_snoc_lt h').2 (h0 k h')
  · obtain rfl : k = L.length := by omega
    exact stay_snoc_last.2 h

/-- The first umbrella order. -/
def umbO (n : Int) (lg : List Int) : Option (List Int) := if IsG n lg then srchS lg.length (fitU lg) (fun _ => true) lg.length [] else none

theorem umb_search {n : Int} {lg : List Int} (hg : IsG n lg) : srchS lg.length (fitV lg) (fun _ => true) lg.length [] = srchS lg.length (fitU lg) (fun _ => true) lg.length [] := by
  symm
  refine srch_inv lg.length _ _ _ (fun L => Verts lg L ∧ UmbP lg L) (fun L u hP hu => ?_) (fun L u hP hu hf => ?_) lg.length [] ⟨Verts.nil lg, fun k hk => absurd hk (by simp)⟩
  · unfold fitU fitV
    congr 1
    exact decide_eq_decide.2 (fit_same hg hP.1 hP.2 hu)
  · refine ⟨hP.1.snoc hu, (fit_same hg hP.1 hP.2 hu).1 ?_⟩
    unfold fitU at hf
    rw [Bool.and_eq_true] at hf
    exact of_decide_eq_true hf.2

/-- What is asked of u behind L where neighbours may be at most k places apart. -/
def BandL (lg L : List Int) (k u : Nat) : Prop := ∀ i, i < L.length → edB lg u (kl L i) = true → L.length - i ≤ k

instance (lg L : List Int) (k u : Nat) : Decidable (BandL lg L k u) := by unfold BandL; infer_instance

def fitB (lg : List Int) (k : Nat) (L : List Int) (u : Nat) : Bool := !decide ((u : Int) ∈ L) && decide (BandL lg L k u)

/-- The first order with the least band. -/
def bandF (n : Int) (lg : List Int) (k : Nat) : Option (List Int) := srchS lg.length (fitB lg k) (fun _ => true) lg.length []

def bandO (n : Int) (lg : List Int) : Option (List Int) := if IsG n lg then firstS (bandF n lg) lg.length else none

theorem srch_len (m : Nat) (fit : List Int → Nat → Bool) (T : List Int → Bool) (k : Nat) : (outL (srchS m fit T k [])).length ≤ k := by
  cases h : srchS m fit T k [] with
  | none => simp [outL]
  | some y =>
    obtain ⟨s, rfl, hl, -⟩ := srch_shape m fit T k [] y h
    simp [outL, hl]

end Go.Proofs.Ytcpchdnhhjhpaaa
