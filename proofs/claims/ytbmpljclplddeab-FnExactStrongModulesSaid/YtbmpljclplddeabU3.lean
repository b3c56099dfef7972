/- The specification's StrongModules. -/
import Derived.Test.YtbmpljclplddeabU2
import Derived.Maps.AppendAt
namespace Go.Proofs.Ytbmpljclplddeab
set_option linter.unusedVariables false
set_option linter.unusedSimpArgs false
open Go.RowKit

/-- append(s, x) of one int, s the call's own; where the new one lies. -/
theorem wpList_append_int_at {P : Program} {Q : Exit → Act → World → Prop} {ops : Array Oper} {rest : List Oper} {o : Oper} {a : Act} {w : World} (hgd : o.guard = none) (s x : Operand) (t : TypeId)
    (ho : o.op = .call { callee := .builtin .append, args := #[s, x], argTypes := #[t, t] }) (B : Nat) (i : TypeInfo) (ht : P.underlying t = some (.slice 3)) (hi : P.info? 3 = some i)
    (hz : i.zero = some (.int .i64 0)) (hsize : i.size = 1) (hby : i.bytes = 8) (v : Value) (m : List Int) (hs : a.eval s = v) (hown : OwnI B w v m) (y : Int) (y0 : -9223372036854775808 ≤ y) (y1 : y ≤ 9223372036854775807) (hx : a.eval x = .slice (some ⟨w.heap.size, 0, none⟩) 1 1)
    (hlen : m.length + 1 ≤ 1000000000) (hB : B ≤ w.heap.size)
    (h : ∀ v' w', OwnI B w' v' (m ++ [y]) → (w.alloc (.cells #[.int .i64 y] 3)).grownBy w' v.ownBlock → (v'.ownBlock = v.ownBlock ∨ v'.ownBlock = some (w.heap.size + 1)) → wpList P ops Q rest (a.put o.dst v') w') : wpList P ops Q (o :: rest) a (w.alloc (.cells #[.int .i64 y] 3)) := by
  refine wpList_append_own_at _ hgd s x t ho B 3 i (.int .i64 0) 1 8 ht hi hz hsize hby rfl (by decide) v m.length (iv m) hs (hown.2.alloc _) ⟨w.heap.size, 0, none⟩ 1 1 [.int .i64 y] hx rfl ?_ (fun u hu => by simp at hu; subst hu; rfl) (by unfold maxLen; omega) (by omega) (by simp; omega) fun v' w' h2 h3 h4 h5 => h v' w' ⟨inI64_append hown.1 (inI64_one y0 y1), ?_⟩ h3 (by simpa using h5)
  · intro j u hj
    match j, hj with
    | 0, hj => simp at hj; subst hj; simp [Addr.add]
  · rw [iv_snoc] at h2
    simpa using h2

def strT (M : List Int) (j : Nat) : List Int := (M.take j).filter fun y => M.all fun z => okI y z

theorem take_one (M : List Int) (j : Nat) (h : j < M.length) : M.take (j + 1) = M.take j ++ [nth M j] := by
  rw [List.take_succ_eq_append_getElem h]
  unfold nth
  rw [List.getD_eq_getElem?_getD, List.getElem?_eq_getElem h, Option.getD_some]

theorem strT_succ (M : List Int) (j : Nat) (h : j < M.length) : strT M (j + 1) = strT M j ++ (if (M.all fun z => okI (nth M j) z) then [nth M j] else []) := by
  unfold strT
  rw [take_one M j h, List.filter_append]
  cases hq : (M.all fun z => okI (nth M j) z) <;> simp [hq]

theorem all_succ (M : List Int) (q : Int → Bool) (k : Nat) (h : k < M.length) : (M.take (k + 1)).all q = ((M.take k).all q && q (nth M k)) := by
  rw [take_one M k h, List.all_append]
  simp

theorem strT_len (M : List Int) (j : Nat) : (strT M j).length ≤ M.length := by
  unfold strT
  exact Nat.le_trans (List.length_filter_le _ _) (by simp; omega)

set_option maxHeartbeats 4000000 in
set_option maxRecDepth 100000 in
theorem specStrong (n : Int) (v : Value) (l : List Int) (w : World) (h : Ints w v l) :
    Calls Try.prog 46 #[.agg #[.int .i64 n, v]] w (GetsI w.heap.size w (strL (famR n l (modB n l)))) := by
  obtain ⟨a, cap, rfl, -, -⟩ := h.form
  obtain ⟨i0, hi, hi0, hi1, hi2⟩ := info_parts infoInt
  have HI := Lib.hid h
  obtain ⟨M, hM⟩ : ∃ M, M = famR n l (modB n l) := ⟨_, rfl⟩
  have HM := Lib.hid hM
  have HL := Lib.hid (show M.length ≤ 128 by rw [hM]; exact famR_length _ _ _)
  rw [← hM]
  clear h hM
  have F0 := Lib.hid (show Below w.heap.size w (w.alloc (.cells #[.int .i64 n, .slice a l.length cap] 33)) from (Below.refl _ w).alloc (Nat.le_refl _) _)
  go_enter Try.func46, Try.ntmps46
  go_wp2_with fail
  refine (specMods n _ l _ ((HI.out.alloc _).alloc _)).mono ?_
  rintro e w1 ⟨vM, rfl, ho, hb⟩
  rw [← HM.out] at ho
  have HO1 := Lib.hid (ho.mono (B' := w.heap.size + 2) (by simp))
  have HE1 := Lib.hid (show OwnI (w.heap.size + 1) w1 (.slice (some ⟨w.heap.size + 1, 0, none⟩) 0 0) [] from by
    have := (OwnI.lit0 (w.alloc (.cells #[.int .i64 n, .slice a l.length cap] 33)) (w.heap.size + 1) (by simp)).on hb
    simpa using this)
  have HB1 := Lib.hid (show Below w.heap.size w w1 from ((F0.out.alloc F0.out.size _).trans (hb.mono (by simp <;> omega))))
  have hz1 : w.heap.size + 2 ≤ w1.heap.size := by have := hb.size; simp at this; omega
  obtain ⟨aM, capM, rfl, -, -⟩ := ho.ints.form
  have hML := HL.out
  clear ho hb
  go_wp2
  go_loopw [3, 5] (fun s i wr => ∃ j : Nat, j ≤ M.length ∧ i = .int .i64 j ∧ w.heap.size + 2 ≤ wr.heap.size ∧ OwnI (w.heap.size + 1) wr s (strT M j) ∧ Hid (OwnI (w.heap.size + 2) wr (.slice aM M.length capM) M ∧ ((Value.slice aM M.length capM).ownBlock = none ∨ (Value.slice aM M.length capM).ownBlock ≠ s.ownBlock)) ∧ Below w.heap.size w wr) (fun _ i _ => M.length - (intOf i).toNat)
  case atStart =>
    refine ⟨0, by omega, rfl, hz1, by first | exact HE1.out | simpa using HE1.out, ⟨HO1.out, ?_⟩, HB1.out⟩
    cases hk : (Value.slice aM M.length capM).ownBlock with
    | none => exact .inl rfl
    | some k =>
      have := (HO1.out.lt k hk).1
      refine .inr fun h => ?_
      simp [Value.ownBlock] at h
      omega
  case round =>
    obtain ⟨j, hj, rfl, hz, ho, HOM, hbel⟩ := hrel
    have HO := Lib.hid ho
    have HB := Lib.hid hbel
    clear ho hbel hz1
    by_cases hlt : j < M.length
    · obtain ⟨wo, rfl⟩ : ∃ wo, wo = wr := ⟨_, rfl⟩
      obtain ⟨y, hy⟩ : ∃ y, y = nth M j := ⟨_, rfl⟩
      have HY := Lib.hid hy
      have HYR := Lib.hid (show -9223372036854775808 ≤ y ∧ y ≤ 9223372036854775807 by rw [hy]; exact nth_in HOM.out.1.1 j)
      clear hy
      go_wp2
      go_loopw [6, 7] (fun sb i wr => ∃ (k : Nat) (b : Bool), k ≤ M.length ∧ i = .int .i64 k ∧ sb = .bool b ∧ Below wo.heap.size wo wr ∧ Hid (b = (M.take k).all fun z => okI y z)) (fun _ i _ => M.length - (intOf i).toNat)
      case atStart => exact ⟨0, true, by omega, rfl, rfl, Below.refl _ _, rfl⟩
      case round =>
        obtain ⟨k, b, hk, rfl, rfl, hbel, HJ⟩ := hrel
        have HB2 := Lib.hid hbel
        obtain ⟨bm, offm, cap1, hv, _, _, hbm, hcm⟩ := (HOM.out.1.on hbel).ints.pos (by omega)
        simp only [Value.slice.injEq] at hv
        obtain ⟨rfl, -, rfl⟩ := hv
        have c1 := hcm j hlt
        rw [← HY.out] at c1
        by_cases hltk : k < M.length
        · obtain ⟨z, hz'⟩ : ∃ z, z = nth M k := ⟨_, rfl⟩
          have c2 := hcm k hltk
          rw [← hz'] at c2
          obtain ⟨P, hP⟩ : ∃ P, P = bits .and .i64 y z := ⟨_, rfl⟩
          have e1 : bits .and .i64 y z = P := hP.symm
          have HN := Lib.hid (show ∀ r : Bool, r = (b && ((P == 0) || (P == y) || (P == z))) → r = (M.take (k + 1)).all fun z => okI y z from fun r hr => by
            rw [all_succ M _ k hltk, ← HJ.out, hr, hP, hz']; rfl)
          clear hcm hz' hP hbel
          cases b with
          | false =>
            go_wp2
            go_quiet (fail)
            go_wp2
            go_roundw
            case rel => exact ⟨k + 1, false, by omega, by go_num, rfl, below_drewN HB2.out _, HN.out _ rfl⟩
            case measure => simp [intOf]; omega
          | true =>
            cases p0 : (P == 0) with
            | true =>
              have HN2 := Lib.hid (HN.out true (by rw [p0]; rfl))
              go_wp2
              go_quiet (fail)
              go_wp2
              go_roundw
              case rel => exact ⟨k + 1, true, by omega, by go_num, rfl, below_drewN HB2.out _, HN2.out⟩
              case measure => simp [intOf]; omega
            | false =>
              cases p1 : (P == y) with
              | true =>
                have HN2 := Lib.hid (HN.out true (by rw [p0, p1]; rfl))
                go_wp2
                go_quiet (fail)
                go_wp2
                go_roundw
                case rel => exact ⟨k + 1, true, by omega, by go_num, rfl, below_drewN HB2.out _, HN2.out⟩
                case measure => simp [intOf]; omega
              | false =>
                cases p2 : (P == z) with
                | true =>
                  have HN2 := Lib.hid (HN.out true (by rw [p0, p1, p2]; rfl))
                  go_wp2
                  go_quiet (fail)
                  go_wp2
                  go_roundw
                  case rel => exact ⟨k + 1, true, by omega, by go_num, rfl, below_drewN HB2.out _, HN2.out⟩
                  case measure => simp [intOf]; omega
                | false =>
                  have HN2 := Lib.hid (HN.out false (by rw [p0, p1, p2]; rfl))
                  go_wp2
                  go_quiet (fail)
                  go_wp2
                  go_roundw
                  case rel => exact ⟨k + 1, false, by omega, by go_num, rfl, below_drewN HB2.out _, HN2.out⟩
                  case measure => simp [intOf]; omega
        · obtain rfl : k = M.length := by omega
          have HA2 := Lib.hid (show b = M.all fun z => okI y z by rw [HJ.out, List.take_length])
          have HS := Lib.hid (strT_succ M j hlt)
          rw [← HY.out, ← HA2.out] at HS
          have HW := Lib.hid (HB.out.trans (hbel.mono HB.out.size))
          have HO3 := Lib.hid (HO.out.on hbel)
          have HOM3 := Lib.hid (HOM.out.1.on hbel)
          have hzr : w.heap.size + 2 ≤ wr.heap.size := by have := hbel.size; omega
          have hz3 : w.heap.size + 1 ≤ wr.heap.size := by omega
          clear hcm hbel
          cases b with
          | false =>
            have HT := Lib.hid (show strT M (j + 1) = strT M j by rw [HS.out]; simp)
            clear c1
            go_wp2
            go_roundw
            case rel => exact ⟨j + 1, by omega, by go_num, hzr, by rw [HT.out]; exact HO3.out, ⟨HOM3.out, HOM.out.2⟩, HW.out⟩
            case measure => simp [intOf]; omega
          | true =>
            have HT := Lib.hid (show strT M (j + 1) = strT M j ++ [y] by rw [HS.out]; simp)
            have HSL := Lib.hid (strT_len M j)
            go_wp2_with (at_builtin; refine wpList_append_int_at rfl (.tmp 55) (.tmp 60) 22 rfl (w.heap.size + 1) i0 Try.underlying22 hi hi0 hi1 hi2 _ _ rfl HO3.out y HYR.out.1 HYR.out.2 rfl (by have := HSL.out; have := HL.out; omega) hz3 ?_)
            intro v' w4 ho4 hg4 hat4
            have HO4 := Lib.hid ho4
            have HOM4 := Lib.hid ((HOM3.out.alloc (.cells #[.int .i64 y] 3)).kept hg4 HOM.out.2)
            have HNE := Lib.hid (show (Value.slice (some ⟨bm, offm, none⟩) M.length capM).ownBlock = none ∨ (Value.slice (some ⟨bm, offm, none⟩) M.length capM).ownBlock ≠ v'.ownBlock by
              rcases hat4 with h | h
              · rw [h]; exact HOM.out.2
              · rw [h]
                refine .inr fun he => ?_
                have := (HOM3.out.lt _ he).2
                omega)
            have hz4 : w.heap.size + 2 ≤ w4.heap.size := by have := hg4.size; simp at this; omega
            have HB4 := Lib.hid (show Below w.heap.size w w4 from (HW.out.alloc HW.out.size (.cells #[.int .i64 y] 3)).grown hg4 (by have := HW.out.size; simp; omega) (fun k hk => by have := (HO3.out.lt k hk).1; omega))
            clear ho4 hg4 hat4 c1
            go_wp2
            go_roundw
            case rel => exact ⟨j + 1, by omega, by go_num, hz4, by rw [HT.out]; exact HO4.out, ⟨HOM4.out, HNE.out⟩, HB4.out⟩
            case measure => simp [intOf]; omega
    · obtain rfl : j = M.length := by omega
      have HE := Lib.hid (show strT M M.length = strL M by unfold strT strL; rw [List.take_length])
      go_wp2
      go_ret
      exact ⟨_, rfl, by rw [← HE.out]; exact HO.out.mono (by omega), HB.out⟩

end Go.Proofs.Ytbmpljclplddeab
