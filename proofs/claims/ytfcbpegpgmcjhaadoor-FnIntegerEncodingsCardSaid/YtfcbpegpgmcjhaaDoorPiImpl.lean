/- Walks over ParseInt and FormatInt of the program. -/
import Derived.Test.YtfcbpegpgmcjhaaDoorPiWalks
import Derived.Test.YtfcbpegpgmcjhaaDoorShelf
import Derived.Lib.AppendIntMem
import Derived.Lib.AtoiTie
import Derived.Lib.AtoiBound
import Derived.Lib.AtoiErrMem
namespace Go.Proofs.YtfcbpegpgmcjhaaDoor
open Go.RowKit

theorem implFI (n : Int) (w : World) (h0 : -9223372036854775808 ≤ n) (h1 : n ≤ 9223372036854775807) (htab : Lib.TabIs Tryd.prog w "internal/strconv.uint64pow10" .u64 Lib.pow10Tab) :
    Calls Tryd.prog 17 #[.int .i64 n] w fun e w' => e = .returned (.string ⟨(Lib.itoa n).toArray⟩) ∧ Below w.heap.size w w' := by
  have HT := Lib.hid htab
  clear htab
  go_enter Tryd.func17, Tryd.ntmps17
  go_wp2_with fail
  refine (Tryd.strconv_Itoa n h0 h1 _ HT.out).mono ?_
  rintro e w' ⟨rfl, k, os, rfl⟩
  go_wp2
  go_ret
  exact ⟨rfl, Lib.below_grow _ _ (Nat.le_refl _) _ _⟩

theorem trim_len (l : List UInt8) : (Lib.trimPrefix l [45]).length = trimLen l := by
  cases l with
  | nil => rfl
  | cons c r =>
    by_cases h : c = 45
    · subst h; simp [Lib.trimPrefix, Lib.hasPrefix, trimLen, hasMinus]
    · have h' : ¬ (45 : UInt8) = c := fun e => h e.symm
      simp [Lib.trimPrefix, Lib.hasPrefix, trimLen, hasMinus, h, h']

theorem trim_any (s : ByteArray) (w : World) : Calls Tryd.prog 31 #[.string s, .string ⟨#[45]⟩] w fun e w' => ∃ t : ByteArray, t.size = trimLen s.data.toList ∧ e = .returned (.string t) ∧ w = w' :=
  (Tryd.strings_TrimPrefix s ⟨#[45]⟩ w).mono fun e w' ⟨he, hw⟩ => ⟨_, by show (Lib.trimPrefix s.data.toList [45]).toArray.size = _; rw [List.size_toArray]; exact trim_len _, he, hw.symm⟩

theorem atoi_yes (s : ByteArray) (n : Int) (hl : s.size ≤ 18) (h : Lib.atoi s.data.toList = some n) (w : World) :
    Calls Tryd.prog 32 #[.string s] w fun e w' => e = .returned (.tuple #[.int .i64 n, .nilIface]) ∧ Below w.heap.size w w' :=
  (Tryd.strconv_Atoi s n hl h w).mono fun e w' ⟨he, t, hw⟩ => ⟨he, by rw [hw]; exact Lib.bytesWorld_below _ _ _⟩

theorem atoi_no (s : ByteArray) (hl : s.size ≤ 18) (h : Lib.atoi s.data.toList = none) (tp : TypeId) (p : Value) (w : World) (hvar : w.var? Tryd.prog "strconv.ErrSyntax" = some #[.iface tp p]) :
    Calls Tryd.prog 32 #[.string s] w fun e w' => ∃ v, e = .returned (.tuple #[.int .i64 0, .iface 73 v]) ∧ Below w.heap.size w w' :=
  (Tryd.strconv_Atoi_syntax_var s (by omega) (by rw [Lib.atoiAll_short _ (by simpa using hl), h]) tp p w hvar).mono fun e w' ⟨N, he, _, _, hb⟩ => ⟨_, he, hb⟩

theorem tab_on {w w' : World} (h : Hid (Lib.TabIs Tryd.prog w "internal/strconv.uint64pow10" .u64 Lib.pow10Tab)) (hb : Below w.heap.size w w') : Hid (Lib.TabIs Tryd.prog w' "internal/strconv.uint64pow10" .u64 Lib.pow10Tab) :=
  (Lib.tabBelow_of_tabIs h.out) _ hb

theorem var_on {P : Program} {w w' : World} {n : String} {cs : Array Value} (h : w.var? P n = some cs) (hb : Below w.heap.size w w') : w'.var? P n = some cs := by
  unfold World.var? at h ⊢
  cases hg : P.globalNamed n with
  | none => simp [hg] at h
  | some g =>
    simp only [hg, Option.bind_some] at h ⊢
    have hlt : g < w.heap.size := by
      rcases Nat.lt_or_ge g w.heap.size with h' | h'
      · exact h'
      · simp [Array.getElem?_eq_none h'] at h
    rw [hb.block g hlt]
    exact h

set_option maxHeartbeats 1000000 in
theorem implPI (s : ByteArray) (w : World) (hs : (s.size : Int) ≤ 1048576) (htab : Lib.TabIs Tryd.prog w "internal/strconv.uint64pow10" .u64 Lib.pow10Tab)
    (tp : TypeId) (p : Value) (hvar : w.var? Tryd.prog "strconv.ErrSyntax" = some #[.iface tp p]) : Calls Tryd.prog 18 #[.string s] w (PIpost (PiR s.data.toList) w) := by
  have HT := Lib.hid htab
  have HV := Lib.hid hvar
  clear htab hvar
  obtain ⟨l, hl⟩ : ∃ l, l = s.data.toList := ⟨_, rfl⟩
  rw [← hl]
  have HLn := Lib.hid (show l.length = s.size by rw [hl]; simp)
  have HL := Lib.hid hl
  clear hl
  go_enter Tryd.func18, Tryd.ntmps18
  go_wp2_with fail
  refine (trim_any s _).mono ?_
  rintro e w' ⟨t, ht, rfl, rfl⟩
  rw [← HL.out] at ht
  have HTr := Lib.hid ht
  clear ht
  by_cases h9 : 9 < t.size
  · have hno := Lib.hid (impl_no1 (l := l) (by rw [← HTr.out]; exact h9))
    have h9' : (9 : Int) < t.size := by omega
    go_wp2
    go_ret2
    exact PIpost.mk 0 false hno.out (Below.refl _ _)
  · have h9' : (t.size : Int) ≤ 9 := by omega
    have HT9 := Lib.hid (show trimLen l ≤ 9 by rw [← HTr.out]; omega)
    have HS := Lib.hid (show s.size ≤ 18 by have := HT9.out; rw [← HLn.out]; unfold trimLen at this; split at this <;> omega)
    clear h9
    cases ha : Lib.atoi l with
    | none =>
      have hno := Lib.hid (impl_no2 ha)
      have HA := Lib.hid ha
      clear ha
      go_wp2_with fail
      refine (atoi_no s HS.out (by rw [← HL.out]; exact HA.out) tp p _ HV.out).mono ?_
      rintro e w1 ⟨v, rfl, hb1⟩
      go_wp2
      go_ret2
      exact PIpost.mk 0 false hno.out hb1
    | some n =>
      have hbd := Lib.atoi_bound ha (by rw [HLn.out]; exact HS.out)
      obtain ⟨hb0, hb1'⟩ := hbd
      have HA := Lib.hid ha
      clear ha
      by_cases he : (Lib.itoa n == s.toList) = true
      · have hr := Lib.hid (impl_yes HT9.out (eq_of_beq_str HL.out he))
        go_wp2_with fail
        refine (atoi_yes s n HS.out (by rw [← HL.out]; exact HA.out) _).mono ?_
        rintro e w1 ⟨rfl, hb1⟩
        have HT1 := tab_on HT hb1
        go_wp2_with (go_at_call 17; refine (implFI n _ (by omega) (by omega) HT1.out).mono ?_; rintro e w2 ⟨rfl, hb2⟩)
        go_ret2
        exact PIpost.mk n true hr.out (hb1.trans (hb2.mono hb1.size))
      · have he := eq_false_of_ne_true he
        have hr := Lib.hid (impl_no3 HA.out (ne_of_beq_str HL.out he))
        go_wp2_with fail
        refine (atoi_yes s n HS.out (by rw [← HL.out]; exact HA.out) _).mono ?_
        rintro e w1 ⟨rfl, hb1⟩
        have HT1 := tab_on HT hb1
        go_wp2_with (go_at_call 17; refine (implFI n _ (by omega) (by omega) HT1.out).mono ?_; rintro e w2 ⟨rfl, hb2⟩)
        go_ret2
        exact PIpost.mk 0 false hr.out (hb1.trans (hb2.mono hb1.size))
end Go.Proofs.YtfcbpegpgmcjhaaDoor
