/- StrongModules. -/
import Derived.Test.YtbmpljclplddeabU1
import Derived.Test.YtbmpljclplddeabL1
import Derived.BigRegion
namespace Go.Proofs.Ytbmpljclplddeab
set_option linter.unusedVariables false
set_option linter.unusedSimpArgs false
open Go.RowKit

def okI (y z : Int) : Bool := (bits .and .i64 y z == 0) || (bits .and .i64 y z == y) || (bits .and .i64 y z == z)

/-- Those that overlap none of them. -/
def strL (M : List Int) : List Int := M.filter fun y => M.all fun z => okI y z

theorem ok_ov (a b : Fin 128) : okI ((a.val : Nat) : Int) ((b.val : Nat) : Int) = !ovI ((a.val : Nat) : Int) ((b.val : Nat) : Int) := by
  have h : ∀ (a b : Fin 128), okI ((a.val : Nat) : Int) ((b.val : Nat) : Int) = !ovI ((a.val : Nat) : Int) ((b.val : Nat) : Int) := by unfold okI ovI; decide +kernel
  exact h a b

theorem famR_mem {n : Int} {l : List Int} {r : Nat → Bool} {y : Int} (h : y ∈ famR n l r) : ∃ a : Nat, a < 128 ∧ y = (a : Int) ∧ r a = true := by
  unfold famR at h
  split at h
  · rename_i hg
    have h7 : l.length ≤ 7 := by have := hg.2.1; have := hg.2.2.1; omega
    unfold famL at h
    obtain ⟨a, ha, rfl⟩ := List.mem_map.1 h
    obtain ⟨ha1, ha2⟩ := List.mem_filter.1 ha
    have := List.mem_range.1 ha1
    exact ⟨a, Nat.lt_of_lt_of_le this (two_le _ h7), rfl, ha2⟩
  · cases h

theorem str_same (n : Int) (l : List Int) (r : Nat → Bool) : famR n l (strB (famR n l r)) = strL (famR n l r) := by
  obtain ⟨M, hM⟩ : ∃ M, M = famR n l r := ⟨_, rfl⟩
  rw [← hM]
  have key : ∀ a : Nat, a < 128 → (M.all fun z => okI (a : Int) z) = !(M.any fun z => ovI (a : Int) z) := fun a ha => by
    rw [List.not_any_eq_all_not]
    have hall : ∀ z, z ∈ M → okI (a : Int) z = !ovI (a : Int) z := fun z hz => by
      rw [hM] at hz
      obtain ⟨b, hb, rfl, -⟩ := famR_mem hz
      exact ok_ov ⟨a, ha⟩ ⟨b, hb⟩
    clear hM
    induction M with
    | nil => rfl
    | cons z M ih =>
      rw [List.all_cons, List.all_cons, hall z (by simp), ih fun z hz => hall z (by simp [hz])]
  unfold strL
  by_cases hg : IsG n l
  · have h7 : l.length ≤ 7 := by have := hg.2.1; have := hg.2.2.1; omega
    have hMM : M = famL r (2 ^ l.length) := by rw [hM]; unfold famR; rw [if_pos hg]
    unfold famR
    rw [if_pos hg]
    have e1 : ∀ x, x ∈ List.range (2 ^ l.length) → strB M x = (r x && (M.all fun z => okI (x : Int) z)) := fun x hx => by
      have hx' := List.mem_range.1 hx
      rw [key x (Nat.lt_of_lt_of_le hx' (two_le _ h7))]
      unfold strB
      have e2 : decide ((x : Int) ∈ M) = r x := by
        cases hr : r x with
        | true => exact decide_eq_true (by rw [hMM]; unfold famL; exact List.mem_map.2 ⟨x, List.mem_filter.2 ⟨hx, hr⟩, rfl⟩)
        | false =>
          refine decide_eq_false fun h => ?_
          rw [hMM] at h
          unfold famL at h
          obtain ⟨a, ha, he⟩ := List.mem_map.1 h
          have hax : a = x := by exact_mod_cast he
          rw [hax] at ha
          have := (List.mem_filter.1 ha).2
          rw [hr] at this
          cases this
      rw [e2]
    have e3 : (List.range (2 ^ l.length)).filter (strB M) = ((List.range (2 ^ l.length)).filter r).filter (fun x : Nat => M.all fun z => okI (x : Int) z) := by
      rw [List.filter_filter]
      refine List.filter_congr fun x hx => ?_
      rw [e1 x hx, Bool.and_comm]
    show (List.filter (strB M) (List.range (2 ^ l.length))).map _ = _
    rw [e3]
    have e4 : ∀ (L : List Nat) (q : Int → Bool), (L.filter fun x : Nat => q (x : Int)).map (fun x : Nat => (x : Int)) = (L.map fun x : Nat => (x : Int)).filter q := fun L q => by
      induction L with
      | nil => rfl
      | cons x L ih => cases hq : q (x : Int) <;> simp [hq, ih]
    rw [e4 _ (fun y => M.all fun z => okI y z)]
    show List.filter _ (famL r (2 ^ l.length)) = _
    rw [← hMM]
  · have hMM : M = [] := by rw [hM]; unfold famR; rw [if_neg hg]
    unfold famR
    rw [if_neg hg, hMM]
    rfl

theorem strL_len (M : List Int) : (strL M).length ≤ M.length := List.length_filter_le _ _

set_option maxHeartbeats 2000000 in
set_option maxRecDepth 100000 in
theorem implStrong (n : Int) (v : Value) (l : List Int) (w : World) (h : Ints w v l) :
    Calls Try.prog 47 #[.agg #[.int .i64 n, v]] w (GetsI w.heap.size w (strL (famR n l (modB n l)))) := by
  obtain ⟨a, cap, rfl, -, -⟩ := h.form
  have hmf : ∀ (fn : Fn) (first cap : Array Value) (w : World), (Instr.makeFunc fn first cap).run Try.prog w = .ok (.func fn first cap) w := fun _ _ _ _ => rfl
  have HI := Lib.hid h
  have HA := argG' (T := 33) (n := n) h
  obtain ⟨M, hM⟩ : ∃ M, M = famR n l (modB n l) := ⟨_, rfl⟩
  have HM := Lib.hid hM
  have HS := Lib.hid (show famR n l (strB M) = strL M by rw [hM]; exact str_same _ _ _)
  have HL := Lib.hid (show M.length ≤ 128 by rw [hM]; exact famR_length _ _ _)
  rw [← hM]
  clear h hM
  go_enter Try.func47, Try.ntmps47
  go_wp2_with fail
  refine (implMods n _ l _ (HI.out.alloc _)).mono ?_
  rintro e w1 ⟨v1, rfl, ho, hb⟩
  rw [← HM.out] at ho
  obtain ⟨a1, cap1, rfl, -, -⟩ := ho.ints.form
  have HB1 := Lib.hid (hb.mono (B' := w.heap.size + 1) (by simp))
  have HO1 := Lib.hid ho.ints
  obtain ⟨c0, c1, cI, cB, hz⟩ := HA.out _ HB1.out
  have HCI := Lib.hid cI
  have HCB := Lib.hid cB
  clear ho hb cI cB
  obtain ⟨W2, hW2⟩ : ∃ W2, W2 = (w1.alloc (.cells #[.slice a1 M.length cap1] 22)).alloc (.cells #[.int .i64 n, .slice a l.length cap, .func (.func 94) #[] #[.pointer (some ⟨w1.heap.size, 0, none⟩)]] 102) := ⟨_, rfl⟩
  have HI2 := Lib.hid (show Ints W2 (.slice a l.length cap) l by rw [hW2]; exact (HCI.out.alloc _).alloc _)
  have HO2 := Lib.hid (show Ints W2 (.slice a1 M.length cap1) M by rw [hW2]; exact (HO1.out.alloc _).alloc _)
  have HX2 := Lib.hid (show W2.cell? ⟨w1.heap.size, 0, none⟩ = some (.slice a1 M.length cap1) by rw [hW2]; simp [go_sem])
  have HQ2 := Lib.hid (show w1.heap.size < W2.heap.size by rw [hW2]; simp <;> omega)
  have hzw : w.heap.size ≤ w1.heap.size := by omega
  have HB2 := Lib.hid (show Below w.heap.size w W2 by rw [hW2]; exact (HCB.out.alloc hzw _).alloc (by simp; omega) _)
  go_wp2_with fail
  rw [← hW2]
  refine (sets_any 94 #[.pointer (some ⟨w1.heap.size, 0, none⟩)] (strB M) n _ l _ HI2.out enters_str1 (fun _ => rule_str1 w1.heap.size _ M _ _ HX2.out HQ2.out HO2.out (by have := HL.out; omega))).mono ?_
  rintro e w3 ⟨v3, rfl, ho, hb⟩
  rw [HS.out] at ho
  have HO3 := Lib.hid (ho.mono HB2.out.size)
  have HB3 := Lib.hid (HB2.out.trans (hb.mono HB2.out.size))
  clear ho hb hmf hW2 c0 c1
  go_wp2
  go_ret
  exact ⟨_, rfl, HO3.out, HB3.out⟩

end Go.Proofs.Ytbmpljclplddeab
