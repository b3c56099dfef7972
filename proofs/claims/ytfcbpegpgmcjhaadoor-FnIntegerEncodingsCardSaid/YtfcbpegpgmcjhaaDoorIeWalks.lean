/- The walk over the law on integer encodings. -/
import Derived.Test.YtfcbpegpgmcjhaaDoorDrawWalks
import Derived.Test.YtfcbpegpgmcjhaaDoorIePlain
import Derived.Test.YtfcbpegpgmcjhaaDoorDvWalks
import Derived.Test.YtfcbpegpgmcjhaaDoorEfWalks
import Derived.Test.YtfcbpegpgmcjhaaDoorDhImpl
import Derived.Test.YtfcbpegpgmcjhaaDoorPiImpl
namespace Go.Proofs.YtfcbpegpgmcjhaaDoor
open Go.RowKit

theorem big_any (a : Option Addr) (len cap : Nat) (w : World) : Calls Tryd.prog 6 #[.slice a len cap] w fun e w' => e = .returned (.bool (decide ((1048576 : Int) < (len : Int)))) ∧ w = w' := by
  go_enter Tryd.func6, Tryd.ntmps6
  go_wp2
  go_ret
  exact ⟨rfl, rfl⟩

/-- EncodeVarint, whatever the number. -/
theorem implEV_all (n : Int) (w : World) (s : ByteArray) (hs : Hid (s = if 0 ≤ n ∧ n ≤ 562949953421311 then ⟨(vint 6 n.toNat).toArray⟩ else ⟨#[]⟩)) : Calls Tryd.prog 9 #[.int .i64 n] w fun e w' => e = .returned (.string s) ∧ Below w.heap.size w w' := by
  have hs := hs.out
  subst hs
  by_cases h : 0 ≤ n ∧ n ≤ 562949953421311
  · rw [if_pos h]
    obtain ⟨m, rfl⟩ := Int.eq_ofNat_of_zero_le h.1
    exact implEV_good m w h.2
  · rw [if_neg h]
    exact (implEV_bad n w (by omega)).mono fun e w' ⟨he, hw⟩ => ⟨he, by rw [← hw]; exact Below.refl _ _⟩

theorem str_len (n : Int) (s : ByteArray) (hs : Hid (s = if 0 ≤ n ∧ n ≤ 562949953421311 then ⟨(vint 6 n.toNat).toArray⟩ else ⟨#[]⟩)) : s.size ≤ 7 := by
  have hs := hs.out
  subst hs
  split
  · show (vint 6 n.toNat).toArray.size ≤ 7; rw [List.size_toArray]; exact vint_length 6 _
  · exact Nat.zero_le _
theorem app_size (s : ByteArray) (l : List UInt8) : (s ++ ({ data := l.toArray } : ByteArray)).size = s.size + l.length := by rw [ByteArray.size_append]; rfl
theorem app_list (s : ByteArray) (l : List UInt8) : (s ++ ({ data := l.toArray } : ByteArray)).data.toList = s.data.toList ++ l := by simp
theorem yes_dv (n : Int) (s : ByteArray) (l : List UInt8) (x k : Nat) (hs : Hid (s = if 0 ≤ n ∧ n ≤ 562949953421311 then ⟨(vint 6 n.toNat).toArray⟩ else ⟨#[]⟩)) (h : 0 ≤ n ∧ n ≤ 562949953421311)
    (hR : ImplR (s ++ ({ data := l.toArray } : ByteArray)).data.toList x k) : s.toList.isEmpty = false ∧ (x : Int) = n ∧ k = s.size := by
  have hs := hs.out
  rw [if_pos h] at hs
  subst hs
  rw [app_list] at hR
  obtain ⟨rfl, rfl⟩ := impl_vint n.toNat l x k (by omega) (by simpa using hR)
  refine ⟨?_, by omega, rfl⟩
  rw [Lib.toList_data]
  have := vint_ne 6 n.toNat
  simpa using this
theorem no_dv (n : Int) (s : ByteArray) (hs : Hid (s = if 0 ≤ n ∧ n ≤ 562949953421311 then ⟨(vint 6 n.toNat).toArray⟩ else ⟨#[]⟩)) (h : ¬ (0 ≤ n ∧ n ≤ 562949953421311)) : s = ⟨#[]⟩ := by
  have hs := hs.out
  rw [if_neg h] at hs
  exact hs

def fits (m d : Int) : Prop := 1 ≤ d ∧ d ≤ 7 ∧ 0 ≤ m ∧ m.toNat / 256 ^ d.toNat = 0
instance (m d : Int) : Decidable (fits m d) := by unfold fits; exact inferInstance
def efF (m d : Int) : ByteArray := if fits m d then ⟨(lowB m.toNat d.toNat).toArray⟩ else ⟨#[]⟩

theorem implEF_all (m d : Int) (w : World) (F : ByteArray) (hF : Hid (F = efF m d)) : Calls Tryd.prog 12 #[.int .i64 m, .int .i64 d] w fun e w' => e = .returned (.string F) ∧ Below w.heap.size w w' := by
  have hF := hF.out
  subst hF
  by_cases hb : d < 1 ∨ 7 < d ∨ m < 0
  · have : ¬ fits m d := by unfold fits; omega
    unfold efF; rw [if_neg this]
    exact (implEF_bad m d w hb).mono fun e w' ⟨he, hw⟩ => ⟨he, by rw [← hw]; exact Below.refl _ _⟩
  · obtain ⟨k, rfl⟩ : ∃ k : Nat, d = k := ⟨d.toNat, by omega⟩
    obtain ⟨n, rfl⟩ : ∃ n : Nat, m = n := ⟨m.toNat, by omega⟩
    by_cases h0 : n / 256 ^ k = 0
    · have : fits (n : Int) (k : Int) := ⟨by omega, by omega, by omega, by simpa using h0⟩
      unfold efF; rw [if_pos this]
      exact implEF_good n k w (by omega) (by omega) (by rw [fits_iff]; simp [h0])
    · have : ¬ fits (n : Int) (k : Int) := fun h => h0 (by simpa using h.2.2.2)
      unfold efF; rw [if_neg this]
      exact (implEF_over n k w (by omega) (by omega) (by rw [fits_iff]; simp [h0])).mono fun e w' ⟨he, hw⟩ => ⟨he, by rw [← hw]; exact Below.refl _ _⟩

theorem specEF_all (m d : Int) (w : World) (F : ByteArray) (hF : Hid (F = efF m d)) (hm : inI64 m) : Calls Tryd.prog 14 #[.int .i64 m, .int .i64 d] w fun e w' => e = .returned (.string F) ∧ Below w.heap.size w w' := by
  have hF := hF.out
  subst hF
  by_cases hb : d < 1 ∨ 7 < d ∨ m < 0
  · have : ¬ fits m d := by unfold fits; omega
    unfold efF; rw [if_neg this]
    exact (specEF_bad m d w hb).mono fun e w' ⟨he, hw⟩ => ⟨he, by rw [← hw]; exact Below.refl _ _⟩
  · obtain ⟨k, rfl⟩ : ∃ k : Nat, d = k := ⟨d.toNat, by omega⟩
    obtain ⟨n, rfl⟩ : ∃ n : Nat, m = n := ⟨m.toNat, by omega⟩
    by_cases h0 : n / 256 ^ k = 0
    · have : fits (n : Int) (k : Int) := ⟨by omega, by omega, by omega, by simpa using h0⟩
      unfold efF; rw [if_pos this]
      exact specEF_good n k w (by omega) (by omega) hm.2 _ (by unfold Hid; rw [if_pos h0]; simp)
    · have : ¬ fits (n : Int) (k : Int) := fun h => h0 (by simpa using h.2.2.2)
      unfold efF; rw [if_neg this]
      exact specEF_good n k w (by omega) (by omega) hm.2 _ (by unfold Hid; rw [if_neg h0])

theorem efF_size (m d : Int) : (efF m d).size ≤ 7 := by
  unfold efF
  split
  · rename_i h
    show (lowB m.toNat d.toNat).toArray.size ≤ 7
    rw [List.size_toArray, lowB_length]; have := h.2.1; omega
  · exact Nat.zero_le _

theorem implDF_any (s : ByteArray) (k : Int) (w : World) (hs : s.size ≤ maxLen) : Calls Tryd.prog 13 #[.string s, .int .i64 k] w fun e w' => ∃ (y : Int) (b : Bool), e = .returned (.tuple #[.int .i64 y, .bool b]) ∧ w = w' := by
  by_cases h : k < 1 ∨ 7 < k ∨ (s.size : Int) < k
  · exact (implDF_bad s k w hs h).mono fun e w' ⟨he, hw⟩ => ⟨0, false, he, hw⟩
  · obtain ⟨n, rfl⟩ : ∃ n : Nat, k = n := ⟨k.toNat, by omega⟩
    exact (implDF_good s n w hs (by omega) (by omega) (by omega)).mono fun e w' ⟨he, hw⟩ => ⟨_, true, he, hw⟩

theorem fit_facts (m d : Int) (F : ByteArray) (hF : Hid (F = efF m d)) (h : fits m d) : F.toList.isEmpty = false ∧ (F.size : Int) = d := by
  have hF := hF.out
  unfold efF at hF
  rw [if_pos h] at hF
  obtain ⟨h1, h7, h0, hz⟩ := h
  subst hF
  refine ⟨?_, ?_⟩
  · rw [Lib.toList_data]
    have : (lowB m.toNat d.toNat) ≠ [] := fun e => by have := lowB_length m.toNat d.toNat; rw [e] at this; simp at this; omega
    simpa using this
  · show (((lowB m.toNat d.toNat).toArray.size : Nat) : Int) = d
    rw [List.size_toArray, lowB_length]; omega

theorem implDF_fit (m d : Int) (F : ByteArray) (l : List UInt8) (w : World) (hF : Hid (F = efF m d)) (h : fits m d) (hl : l.length ≤ 40) : Calls Tryd.prog 13 #[.string (F ++ ({ data := l.toArray } : ByteArray)), .int .i64 d] w fun e w' => e = .returned (.tuple #[.int .i64 m, .bool true]) ∧ w = w' := by
  have hsz := (fit_facts m d F hF h).2
  have hF := hF.out
  unfold efF at hF
  rw [if_pos h] at hF
  obtain ⟨h1, h7, h0, hz⟩ := h
  obtain ⟨k, rfl⟩ : ∃ k : Nat, d = k := ⟨d.toNat, by omega⟩
  have hg := implDF_good (F ++ ({ data := l.toArray } : ByteArray)) k w (by rw [app_size]; unfold maxLen; omega) (by omega) (by omega) (by rw [app_size]; omega)
  have e : (F ++ ({ data := l.toArray } : ByteArray)).data.toList.take k = lowB m.toNat k := by
    rw [app_list, hF]
    have : (lowB m.toNat (k : Int).toNat) = lowB m.toNat k := by simp
    rw [this]
    have hlen := lowB_length m.toNat k
    simp [hlen]
  rw [e, dec_fits m.toNat k (by simpa using hz)] at hg
  rw [show ((m.toNat : Nat) : Int) = m by omega] at hg
  exact hg

theorem implEH_l (l : List UInt8) (w : World) (hl : l.length ≤ 40) (h : List UInt8) (hh : Hid (h = hexL l)) : Calls Tryd.prog 15 #[.string ⟨l.toArray⟩] w fun e w' => e = .returned (.string ⟨h.toArray⟩) ∧ Below w.heap.size w w' := by
  have hx := implEH ⟨l.toArray⟩ w (by show ((l.toArray.size : Nat) : Int) ≤ 1048576; rw [List.size_toArray]; omega)
  rw [hh.out]
  simpa using hx
theorem implDH_l (l h : List UInt8) (w : World) (hl : l.length ≤ 40) (hh : Hid (h = hexL l)) : Calls Tryd.prog 16 #[.string ⟨h.toArray⟩] w fun e w' => e = .returned (.tuple #[.string ⟨l.toArray⟩, .bool true]) ∧ Below w.heap.size w w' := by
  have hlen := hexL_length l
  have hx := implDH ⟨h.toArray⟩ w (by show ((h.toArray.size : Nat) : Int) ≤ 1048576; rw [List.size_toArray, hh.out]; omega)
  refine hx.mono ?_
  rintro e w' ⟨r, b, hR, he, hb⟩
  have hR0 : DhR (hexL l) l true := by
    obtain ⟨g1, g2⟩ := unhex_hex l
    exact .inr (.inl ⟨by omega, g1, g2.symm, rfl⟩)
  have hR1 : DhR (hexL l) r b := by rw [← hh.out]; simpa using hR
  obtain ⟨rfl, rfl⟩ := DhR.agree hR0 hR1
  exact ⟨he, hb⟩
theorem implPI_f (m : Int) (g : Bool) (D : List UInt8) (w : World) (hm : inI64 m) (hg : Hid (g = decide (-1000000000 < m ∧ m < 1000000000))) (hD : Hid (D = Lib.itoa m)) (htab : Lib.TabIs Tryd.prog w "internal/strconv.uint64pow10" .u64 Lib.pow10Tab)
    (tp : TypeId) (p : Value) (hvar : w.var? Tryd.prog "strconv.ErrSyntax" = some #[.iface tp p]) :
    Calls Tryd.prog 18 #[.string ⟨D.toArray⟩] w fun e w' => ∃ z : Int, (g = true → z = m) ∧ e = .returned (.tuple #[.int .i64 z, .bool g]) ∧ Below w.heap.size w w' := by
  have hlen := Lib.itoa_length_le m hm.1 hm.2
  have hx := implPI ⟨D.toArray⟩ w (by show ((D.toArray.size : Nat) : Int) ≤ 1048576; rw [List.size_toArray, hD.out]; omega) htab tp p hvar
  refine hx.mono ?_
  rintro e w' ⟨z, b, hR, he, hb⟩
  have hR1 : PiR (Lib.itoa m) z b := by rw [← hD.out]; simpa using hR
  obtain ⟨h1, h2⟩ := parse_format m
  by_cases hs : -1000000000 < m ∧ m < 1000000000
  · have hg' : g = true := by rw [hg.out]; simpa using hs
    subst hg'
    obtain ⟨rfl, rfl⟩ := PiR.agree (.inl ⟨m, h1 hs, rfl, rfl⟩) hR1
    exact ⟨_, fun _ => rfl, he, hb⟩
  · have hg' : g = false := by rw [hg.out]; simpa using hs
    subst hg'
    obtain ⟨rfl, rfl⟩ := PiR.agree (.inr ⟨h2 hs, rfl, rfl⟩) hR1
    exact ⟨0, (by intro h; cases h), he, hb⟩

theorem hex_list (l : List UInt8) : ({ data := l.toArray } : ByteArray).data.toList = l := by simp

set_option maxHeartbeats 4000000 in
set_option maxRecDepth 100000 in
theorem law_walk (a : Option Addr) (len cap : Nat) (w : World) (hl : (len : Int) ≤ 1048576) (hcode : Code a len w.heap.size w) (htab : Lib.TabIs Tryd.prog w "internal/strconv.uint64pow10" .u64 Lib.pow10Tab)
    (tp : TypeId) (p : Value) (hvar : w.var? Tryd.prog "strconv.ErrSyntax" = some #[.iface tp p]) :
    Calls Tryd.prog 3 #[.slice a len cap] w fun e w' => e = .returned (.bool true) ∧ Below w.heap.size w w' := by
  have HC := Lib.hid hcode
  have HT := Lib.hid htab
  have HV := Lib.hid hvar
  have hlN : len ≤ 1048576 := by omega
  have hbig : decide ((1048576 : Int) < (len : Int)) = false := by simp; omega
  clear hcode htab hvar
  go_enter Tryd.func3, Tryd.ntmps3
  go_wp2_with fail
  refine (big_any a len cap _).mono ?_
  rintro e w' ⟨rfl, rfl⟩
  go_wp2_with fail
  refine (drawEV a len cap w.heap.size _ hlN HC.out (Nat.le_refl _)).mono ?_
  rintro e w1 ⟨_, ⟨n, hn, rfl⟩, rfl, hb1⟩
  have HN := Lib.hid hn
  have HC1 := Lib.hid (HC.out.on hb1.block)
  have hs1 := hb1.size
  clear hn
  go_wp2_with fail
  refine (drawEH a len cap w.heap.size _ hlN HC1.out hs1).mono ?_
  rintro e w2 ⟨_, ⟨l, hl40, rfl⟩, rfl, hb2⟩
  have HB2 := Lib.hid (hb1.trans hb2)
  have hs2 := HB2.out.size
  clear hb1 hb2 HC1 hs1
  obtain ⟨s, hs⟩ : ∃ s : ByteArray, s = if 0 ≤ n ∧ n ≤ 562949953421311 then ⟨(vint 6 n.toNat).toArray⟩ else ⟨#[]⟩ := ⟨_, rfl⟩
  have HS := Lib.hid hs
  clear hs
  go_wp2_with fail
  refine (implEV_all n _ s HS).mono ?_
  rintro e w3 ⟨rfl, hb3⟩
  have HB3 := Lib.hid (HB2.out.trans (hb3.mono hs2))
  have hs3 := HB3.out.size
  clear hb3 HB2 hs2
  have hs7 := str_len n s HS
  go_wp2_with fail
  refine (implDV (s ++ ({ data := l.toArray } : ByteArray)) _ (by rw [app_size]; omega)).mono ?_
  rintro e w4 ⟨x, k, hR, rfl, hb4⟩
  have HB4 := Lib.hid (HB3.out.trans (hb4.mono hs3))
  have hs4 := HB4.out.size
  have HR := Lib.hid hR
  clear hb4 HB3 hs3 hR
  rcases (by omega : (0 ≤ n ∧ n ≤ 562949953421311) ∨ n < 0 ∨ 562949953421311 < n) with hr | hr | hr
  case' inl =>
    obtain ⟨e1, e2, e3⟩ := yes_dv n s l x k HS hr HR.out
    obtain ⟨hr1, hr2⟩ := hr
    go_wp2_with fail
    clear e1 e2 e3 hr1 hr2
  case' inr.inl =>
    have e1 := no_dv n s HS (by omega)
    subst e1
    go_wp2_with fail
    clear hr
  case' inr.inr =>
    have e1 := no_dv n s HS (by omega)
    subst e1
    have hr0 : 0 ≤ n := by omega
    have hd : decide (n ≤ 562949953421311) = false := by simp; omega
    go_wp2_with fail
    clear hr hr0 hd
  all_goals
    clear HR HS hs7
    have HC4 := Lib.hid (HC.out.on HB4.out.block)
    refine (drawEF a len cap w.heap.size _ hlN HC4.out hs4).mono ?_
    rintro e w5 ⟨_, ⟨m, d, hm, hd0, hd1, rfl⟩, rfl, hb5⟩
    have HM := Lib.hid hm
    have HB5 := Lib.hid (HB4.out.trans hb5)
    have hs5 := HB5.out.size
    clear hb5 HB4 hs4 hm HC4
    obtain ⟨F, hF⟩ : ∃ F, F = efF m d := ⟨_, rfl⟩
    have hF7 : F.size ≤ 7 := by rw [hF]; exact efF_size m d
    have HF := Lib.hid hF
    clear hF
    go_wp2_with fail
    refine (implEF_all m d _ F HF).mono ?_
    rintro e w6 ⟨rfl, hb6⟩
    have HB6 := Lib.hid (HB5.out.trans (hb6.mono hs5))
    have hs6 := HB6.out.size
    clear hb6 HB5 hs5
    by_cases hfit : fits m d
    · obtain ⟨e1, e2⟩ := fit_facts m d F HF hfit
      have HFT := Lib.hid hfit
      have HE2 := Lib.hid e2
      clear hfit e2
      go_wp2_with fail
      refine (implDF_fit m d F l _ HF HFT.out hl40).mono ?_
      rintro e w7 ⟨rfl, rfl⟩
      have e2 := HE2.out
      go_wp2_with (go_at_call 14; refine (specEF_all m d _ F HF HM.out).mono ?_; rintro e w7 ⟨rfl, hb7⟩)
      have HB7 := Lib.hid (HB6.out.trans (hb7.mono hs6))
      have hs7' := HB7.out.size
      clear e1 e2 hb7 HB6 hs6
      obtain ⟨h, hh⟩ : ∃ h, h = hexL l := ⟨_, rfl⟩
      have hhl : h.length = 2 * l.length := by rw [hh]; exact hexL_length l
      have HH := Lib.hid hh
      have HHL := Lib.hid hhl
      clear hh hhl
      refine (implEH_l l _ hl40 h HH).mono ?_
      rintro e w8 ⟨rfl, hb8⟩
      have HB8 := Lib.hid (HB7.out.trans (hb8.mono hs7'))
      have hs8 := HB8.out.size
      clear hb8 HB7 hs7'
      go_wp2_with fail
      refine (implDH_l l h _ hl40 HH).mono ?_
      rintro e w9 ⟨rfl, hb9⟩
      have HB9 := Lib.hid (HB8.out.trans (hb9.mono hs8))
      have hs9 := HB9.out.size
      have HT9 := tab_on HT HB9.out
      have HV9 := Lib.hid (var_on HV.out HB9.out)
      clear hb9 HB8 hs8
      obtain ⟨D, hD⟩ : ∃ D, D = Lib.itoa m := ⟨_, rfl⟩
      have k17 := fun W ht => implFI m W HM.out.1 HM.out.2 ht
      have k19 := fun W => specFI m W HM.out.1 HM.out.2
      rw [← hD] at k17 k19
      have HD := Lib.hid hD
      have K17 := Lib.hid k17
      have K19 := Lib.hid k19
      clear hD k17 k19
      go_wp2_with fail
      refine (K17.out _ HT9.out).mono ?_
      rintro e w10 ⟨rfl, hb10⟩
      have HB10 := Lib.hid (HB9.out.trans (hb10.mono hs9))
      have hs10 := HB10.out.size
      have HT10 := tab_on HT HB10.out
      have HV10 := Lib.hid (var_on HV.out HB10.out)
      clear hb10 HB9 hs9 HT9 HV9
      by_cases hsm : -1000000000 < m ∧ m < 1000000000
      · have HG : Hid (true = decide (-1000000000 < m ∧ m < 1000000000)) := by unfold Hid; simpa using hsm
        obtain ⟨hsm1, hsm2⟩ := hsm
        go_wp2_with fail
        refine (implPI_f m true D _ HM.out HG HD HT10.out tp p HV10.out).mono ?_
        rintro e w11 ⟨z, hz, rfl, hb11⟩
        obtain rfl := hz rfl
        have HB11 := Lib.hid (HB10.out.trans (hb11.mono hs10))
        have hs11 := HB11.out.size
        have hhl := HHL.out
        clear hb11 HB10 hs10 HT10 HV10 hz
        go_wp2_with (go_at_call 19; refine (K19.out _).mono ?_; rintro e w12 ⟨rfl, hb12⟩)
        go_ret
        exact ⟨rfl, HB11.out.trans (hb12.mono hs11)⟩
      · have HG : Hid (false = decide (-1000000000 < m ∧ m < 1000000000)) := by unfold Hid; simpa using hsm
        go_wp2_with fail
        refine (implPI_f m false D _ HM.out HG HD HT10.out tp p HV10.out).mono ?_
        rintro e w11 ⟨z, hz, rfl, hb11⟩
        have HB11 := Lib.hid (HB10.out.trans (hb11.mono hs10))
        have hs11 := HB11.out.size
        have hhl := HHL.out
        clear hb11 HB10 hs10 HT10 HV10 hz
        by_cases hlo : -1000000000 < m
        · have hd1 : decide (m < 1000000000) = false := by simp; omega
          clear hsm
          go_wp2_with (go_at_call 19; refine (K19.out _).mono ?_; rintro e w12 ⟨rfl, hb12⟩)
          go_ret
          exact ⟨rfl, HB11.out.trans (hb12.mono hs11)⟩
        · have hd1 : decide (-1000000000 < m) = false := by simp; omega
          clear hsm
          go_wp2_with (go_at_call 19; refine (K19.out _).mono ?_; rintro e w12 ⟨rfl, hb12⟩)
          go_ret
          exact ⟨rfl, HB11.out.trans (hb12.mono hs11)⟩
    · have e1 : F = ⟨#[]⟩ := by rw [HF.out]; unfold efF; rw [if_neg hfit]
      have HF' : Hid ((⟨#[]⟩ : ByteArray) = efF m d) := by rw [← e1]; exact HF
      clear HF
      subst e1
      clear hfit
      go_wp2_with fail
      refine (implDF_any _ d _ (by show (l.toArray.size : Nat) ≤ maxLen; rw [List.size_toArray]; unfold maxLen; omega)).mono ?_
      rintro e w7 ⟨y, b, rfl, rfl⟩
      go_wp2_with (go_at_call 14; refine (specEF_all m d _ _ HF' HM.out).mono ?_; rintro e w7 ⟨rfl, hb7⟩)
      have HB7 := Lib.hid (HB6.out.trans (hb7.mono hs6))
      have hs7' := HB7.out.size
      clear hb7 HB6 hs6
      obtain ⟨h, hh⟩ : ∃ h, h = hexL l := ⟨_, rfl⟩
      have hhl : h.length = 2 * l.length := by rw [hh]; exact hexL_length l
      have HH := Lib.hid hh
      have HHL := Lib.hid hhl
      clear hh hhl
      refine (implEH_l l _ hl40 h HH).mono ?_
      rintro e w8 ⟨rfl, hb8⟩
      have HB8 := Lib.hid (HB7.out.trans (hb8.mono hs7'))
      have hs8 := HB8.out.size
      clear hb8 HB7 hs7'
      go_wp2_with fail
      refine (implDH_l l h _ hl40 HH).mono ?_
      rintro e w9 ⟨rfl, hb9⟩
      have HB9 := Lib.hid (HB8.out.trans (hb9.mono hs8))
      have hs9 := HB9.out.size
      have HT9 := tab_on HT HB9.out
      have HV9 := Lib.hid (var_on HV.out HB9.out)
      clear hb9 HB8 hs8
      obtain ⟨D, hD⟩ : ∃ D, D = Lib.itoa m := ⟨_, rfl⟩
      have k17 := fun W ht => implFI m W HM.out.1 HM.out.2 ht
      have k19 := fun W => specFI m W HM.out.1 HM.out.2
      rw [← hD] at k17 k19
      have HD := Lib.hid hD
      have K17 := Lib.hid k17
      have K19 := Lib.hid k19
      clear hD k17 k19
      go_wp2_with fail
      refine (K17.out _ HT9.out).mono ?_
      rintro e w10 ⟨rfl, hb10⟩
      have HB10 := Lib.hid (HB9.out.trans (hb10.mono hs9))
      have hs10 := HB10.out.size
      have HT10 := tab_on HT HB10.out
      have HV10 := Lib.hid (var_on HV.out HB10.out)
      clear hb10 HB9 hs9 HT9 HV9
      by_cases hsm : -1000000000 < m ∧ m < 1000000000
      · have HG : Hid (true = decide (-1000000000 < m ∧ m < 1000000000)) := by unfold Hid; simpa using hsm
        obtain ⟨hsm1, hsm2⟩ := hsm
        go_wp2_with fail
        refine (implPI_f m true D _ HM.out HG HD HT10.out tp p HV10.out).mono ?_
        rintro e w11 ⟨z, hz, rfl, hb11⟩
        obtain rfl := hz rfl
        have HB11 := Lib.hid (HB10.out.trans (hb11.mono hs10))
        have hs11 := HB11.out.size
        have hhl := HHL.out
        clear hb11 HB10 hs10 HT10 HV10 hz
        go_wp2_with (go_at_call 19; refine (K19.out _).mono ?_; rintro e w12 ⟨rfl, hb12⟩)
        go_ret
        exact ⟨rfl, HB11.out.trans (hb12.mono hs11)⟩
      · have HG : Hid (false = decide (-1000000000 < m ∧ m < 1000000000)) := by unfold Hid; simpa using hsm
        go_wp2_with fail
        refine (implPI_f m false D _ HM.out HG HD HT10.out tp p HV10.out).mono ?_
        rintro e w11 ⟨z, hz, rfl, hb11⟩
        have HB11 := Lib.hid (HB10.out.trans (hb11.mono hs10))
        have hs11 := HB11.out.size
        have hhl := HHL.out
        clear hb11 HB10 hs10 HT10 HV10 hz
        by_cases hlo : -1000000000 < m
        · have hd1 : decide (m < 1000000000) = false := by simp; omega
          clear hsm
          go_wp2_with (go_at_call 19; refine (K19.out _).mono ?_; rintro e w12 ⟨rfl, hb12⟩)
          go_ret
          exact ⟨rfl, HB11.out.trans (hb12.mono hs11)⟩
        · have hd1 : decide (-1000000000 < m) = false := by simp; omega
          clear hsm
          go_wp2_with (go_at_call 19; refine (K19.out _).mono ?_; rintro e w12 ⟨rfl, hb12⟩)
          go_ret
          exact ⟨rfl, HB11.out.trans (hb12.mono hs11)⟩
end Go.Proofs.YtfcbpegpgmcjhaaDoor
